/-
  Contract of casematelaw07.awake.
-/
import Derived.Test.YtbgpboplpdljoaaAesL0
namespace Go.Proofs.Ytbgpboplpdljoaa
open Go.ChangeShapes Go.WideShapes Go.ChangeAt Go.RowKit
open AesM (Bt ls Q16)
attribute [local go_sem] Gives GivesE
section
variable {a : Act} {w : World} {dst : Option Tmp} {ty : TypeId} {pos : String} {after : Array Edge} {x : Operand} {g o n : Nat} {f : Nat → Nat} {T : TypeId} {gd : Option (Nat × Bool)} {R : Value → World → Prop}
theorem gE_load (hT : ArT T n) (hx : a.eval x = .pointer (some ⟨g, o, none⟩)) (hb : w.rangeAt g o (ar n f).toList) (hR : R (.agg (ar n f)) w) : GivesE Try.prog ⟨dst, .load T x, ty, pos, after, gd⟩ a w R := by
  unfold GivesE
  simp only [execOp, hx, Sem.run_bind, run_ldm hT hb, Result.andThen_ok, Sem.run_pure]
  exact hR
end
theorem eqg_bk : Try.prog.eqGuardType Try.prog.depth 24 = false := by kernel_rfl
theorem uBk : Try.prog.underlying 24 = some (.array 16 5) := Try.underlying24
section
variable {ops : Array Oper} {a : Act} {w : World} {rest : List Oper} {dst : Option Tmp} {ty r : TypeId} {pos : String} {after : Array Edge} {x y : Operand} {f g : Nat → Nat} {gd : Option (Nat × Bool)} {R : Value → World → Prop} {C : World → Prop} {Qk : Act → Prop}
theorem exec_eqA (hx : a.eval x = .agg (ar 16 f)) (hy : a.eval y = .agg (ar 16 g)) : (execOp a.eval ⟨dst, .binOp .eql 24 x y r, ty, pos, after, gd⟩).run Try.prog w = .ok (.value (.bool (eqA 16 f g))) w := by
  have h1 : (eqGuard .eql 24 x y (.agg (ar 16 f)) (.agg (ar 16 g))).run Try.prog w = .ok () w := by
    simp [eqGuard, eqg_bk, go_sem]
  simp only [execOp, hx, hy, Sem.run_bind, h1, run_eql_ar uBk, Result.andThen_ok, Sem.run_pure]
theorem gE_eql (hx : a.eval x = .agg (ar 16 f)) (hy : a.eval y = .agg (ar 16 g)) (hR : R (.bool (eqA 16 f g)) w) : GivesE Try.prog ⟨dst, .binOp .eql 24 x y r, ty, pos, after, gd⟩ a w R := by
  unfold GivesE
  rw [exec_eqA hx hy]
  exact hR
theorem keqA (b : Bool) (hwt : Region.wanted ⟨dst, .binOp .eql 24 x y r, ty, pos, after, gd⟩ (yielded ops a.tmps) = true) (hx : a.eval x = .agg (ar 16 f)) (hy : a.eval y = .agg (ar 16 g)) (hb : eqA 16 f g = b)
    (h : wpK Try.prog ops C Qk rest (a.put dst (.bool b))) : wpK Try.prog ops C Qk (⟨dst, .binOp .eql 24 x y r, ty, pos, after, gd⟩ :: rest) a :=
  wpK_val hwt (fun w hw => gives_value (w' := w) (by rw [exec_eqA hx hy, hb]) hw) h
theorem gE_build {parts : Array (Nat × Operand)} {T : TypeId} {cs : Array Value} (hb : (Instr.build T (parts.map fun (i, x) => (i, a.eval x))).run Try.prog w = .ok (.agg cs) w) (hR : R (.agg cs) w) : GivesE Try.prog ⟨dst, .build T parts, ty, pos, after, gd⟩ a w R := by
  unfold GivesE
  simp only [execOp, Sem.run_bind, hb, Result.andThen_ok, Sem.run_pure]
  exact hR
theorem kbldA {parts : Array (Nat × Operand)} {T : TypeId} {cs : Array Value} (hwt : Region.wanted ⟨dst, .build T parts, ty, pos, after, gd⟩ (yielded ops a.tmps) = true) (hb : ∀ w, (Instr.build T (parts.map fun (i, x) => (i, a.eval x))).run Try.prog w = .ok (.agg cs) w)
    (h : wpK Try.prog ops C Qk rest (a.put dst (.agg cs))) : wpK Try.prog ops C Qk (⟨dst, .build T parts, ty, pos, after, gd⟩ :: rest) a :=
  wpK_val hwt (fun w hw => gives_value (w' := w) (by simp only [execOp, Sem.run_bind, hb, Result.andThen_ok, Sem.run_pure]) hw) h
end
namespace AesP
/-- What the operations' values are like: told (some), or a pointer (none). -/
def nS (fx : List (Option Value)) (j : Nat) (v : Value) : Prop := match fx[j]? with
  | some (some u) => v = u
  | some none => ∃ g : Nat, v = .pointer (some ⟨g, 0, none⟩)
  | none => True
def nV (fx : List (Option Value)) (j : Nat) : Value := match fx[j]? with
  | some (some u) => u
  | some none => .pointer (some ⟨0, 0, none⟩)
  | none => undef
theorem nS_ok (fx : List (Option Value)) (j : Nat) : nS fx j (nV fx j) := by
  unfold nS nV
  cases fx[j]? with
  | none => trivial
  | some o => cases o with
    | none => exact ⟨0, rfl⟩
    | some u => rfl
/-- The operations of js yield ciphers of the key. -/
def nD (js : List Nat) (B : Nat) (K : Nat → Nat) (j : Nat) (vs : Nat → Value) (w : World) : Prop := js.contains j = true → ∃ g : Nat, vs j = .pointer (some ⟨g, 0, none⟩) ∧ Cip w g K false ∧ B ≤ g
theorem nD_below {js : List Nat} {B : Nat} {K : Nat → Nat} {j : Nat} {vs : Nat → Value} {w w' : World} (h : nD js B K j vs w) (hb : Below w.heap.size w w') : nD js B K j vs w' := fun e => by
  obtain ⟨g, h1, h2, h3⟩ := h e
  exact ⟨g, h1, Blk.below h2 hb (cip_lt h2), h3⟩
theorem nD_loc {js : List Nat} {B : Nat} {K : Nat → Nat} {i j : Nat} {vs : Nat → Value} {v : Value} {w : World} (hji : j ≠ i) (h : nD js B K j vs w) : nD js B K j (updV vs i v) w := by
  unfold nD at h ⊢
  rw [updV_ne _ _ hji]
  exact h
theorem nD_none {js : List Nat} {B : Nat} {K : Nat → Nat} {j : Nat} {vs : Nat → Value} {w : World} (h : js.contains j = false) : nD js B K j vs w := fun e => by rw [h] at e; cases e
theorem eql_yes {f g : Nat → Nat} (h : Q16 f g) (w : World) : (binOp .eql 24 (.agg (ar 16 f)) (.agg (ar 16 g))).run Try.prog w = .ok (.bool true) w := by
  rw [run_eql_ar uBk, eqA_yes h]
theorem exK_bt : Bt (ls AesM.exK) := fun i => by
  unfold ls
  have h : ∀ x ∈ AesM.exK, x < 256 := by decide
  rw [List.getD_eq_getElem?_getD]
  rcases Nat.lt_or_ge i AesM.exK.length with ha | ha
  · rw [List.getElem?_eq_getElem ha]; exact h _ (List.getElem_mem ha)
  · rw [List.getElem?_eq_none ha]; decide
theorem exB_bt : Bt (ls AesM.exB) := fun i => by
  unfold ls
  have h : ∀ x ∈ AesM.exB, x < 256 := by decide
  rw [List.getD_eq_getElem?_getD]
  rcases Nat.lt_or_ge i AesM.exB.length with ha | ha
  · rw [List.getElem?_eq_getElem ha]; exact h _ (List.getElem_mem ha)
  · rw [List.getElem?_eq_none ha]; decide
set_option maxHeartbeats 400000 in
set_option maxRecDepth 100000 in
theorem awake_any (w : World) :
    Calls Try.prog 12 #[] w fun e w' => e = .returned (.bool true) ∧ Below w.heap.size w w' := by
  go_enter Try.func12, Try.ntmps12
  go_wp2_with fail
  refine (steps_any w).mono ?_
  rintro e w1 ⟨rfl, h1⟩
  have hs1 := h1.size
  obtain ⟨g1, hg1⟩ : ∃ g1, g1 = w1.heap.size := ⟨_, rfl⟩
  obtain ⟨g2, hg2⟩ : ∃ g2, g2 = (w1.alloc (.cells (ar 32 fun _ => 0) 23)).heap.size := ⟨_, rfl⟩
  have hg12 : g2 = g1 + 1 := by rw [hg2, hg1]; simp
  have hwg : w.heap.size ≤ g1 := by omega
  have z1 : Blk ((w1.alloc (.cells (ar 32 fun _ => 0) 23)).alloc (.cells (ar 16 fun _ => 0) 24)) w1.heap.size 23 (ar 32 fun _ => 0) := (Blk.new _ _ _).alloc _
  have z2 : Blk ((w1.alloc (.cells (ar 32 fun _ => 0) 23)).alloc (.cells (ar 16 fun _ => 0) 24)) (w1.alloc (.cells (ar 32 fun _ => 0) 23)).heap.size 24 (ar 16 fun _ => 0) := Blk.new _ _ _
  have z2' := z2.setRow_other (g' := w1.heap.size) (by simp) (ar 32 (ls AesM.exK))
  have z1' := z1.setRow_same (ar 32 (ls AesM.exK))
  go_upto_region 2 with (first | (with_reducible apply alA tKey) | (with_reducible apply alA tBk) | ((with_reducible apply stA tKey); rfl; rfl; exact z1) | ((with_reducible apply stA tBk); rfl; rfl; exact z2'))
  rw [← hg2, ← hg1] at *
  generalize hw3 : World.setRow (World.setRow _ _ _) _ _ = w3
  have b1 := hid (show Blk w3 g1 23 (ar 32 (ls AesM.exK)) by rw [← hw3]; exact z1'.setRow_other (by omega) _)
  have b2 := hid (show Blk w3 g2 24 (ar 16 (ls AesM.exB)) by rw [← hw3]; exact z2'.setRow_same _)
  have hb := hid (show Below w.heap.size w w3 by rw [← hw3]; exact below_setRow (below_setRow ((h1.alloc (by omega) _).alloc (by simp; omega) _) hwg _) (by omega) _)
  clear hw3 z1 z2 z1' z2' h1 hg1 hg2 hs1
  have hO : ∀ w : World, (Instr.build 24 #[(0, .int .u8 142), (1, .int .u8 162), (2, .int .u8 183), (3, .int .u8 202), (4, .int .u8 81), (5, .int .u8 103), (6, .int .u8 69), (7, .int .u8 191), (8, .int .u8 234), (9, .int .u8 252), (10, .int .u8 73), (11, .int .u8 144), (12, .int .u8 75), (13, .int .u8 73), (14, .int .u8 96), (15, .int .u8 137)]).run Try.prog w = .ok (.agg (ar 16 (ls AesM.exO))) w := fun w => run_build w _ _ _ (by kernel_rfl)
  have HO := hid hO
  clear hO
  refine wp_region_ex (S := nS [some (.agg (ar 32 (ls AesM.exK))), none, some (.agg (ar 16 (ls AesM.exB))), some (.agg (ar 16 (AesM.sealM (AesM.ks (ls AesM.exK)) (ls AesM.exB)))), some (.agg (ar 16 (ls AesM.exO))), some (.bool true), some (.bool true)]) (D := nD [1] w3.heap.size (AesM.ks (ls AesM.exK))) (K := fun _ _ w w' => Below w.heap.size w w') (C := fun _ w' => Below w3.heap.size w3 w') 7 (by kernel_rfl) (by kernel_rfl) (by kernel_rfl)
    _ (nS_ok _) (fun i j vs w w' _ _ _ h hb => nD_below h hb) (fun j i vs v w hji _ h => nD_loc hji h) (Below.refl _ _).drew fun vs => ?_
  simp only [List.take_succ_cons, List.take_zero, List.drop_succ_cons, List.drop_zero]
  refine ⟨.inl ⟨rfl, fun dd w' hd hC hDs => ?_⟩, fun e => ?_⟩
  · exact gE_load tKey rfl (b1.out.below hC b1.out.lt).head ⟨rfl, hC, Below.refl _ _, nD_none rfl⟩
  have e' : vs 0 = _ := e
  rw [e']
  clear e e'
  simp only [Act.put, List.setIfInBounds_toArray, List.set_cons_succ, List.set_cons_zero]
  refine ⟨.inl ⟨rfl, fun dd w' hd hC hDs => ?_⟩, fun e => ?_⟩
  · go_simp
    refine (new_any (ls AesM.exK) exK_bt w').mono ?_
    rintro e w'' ⟨g, rfl, h2, h3, h4⟩
    exact ⟨_, rfl, ⟨g, rfl⟩, hC.trans (h4.mono hC.size), h4, fun _ => ⟨g, updV_self _ _ _, h3, Nat.le_trans hC.size h2⟩⟩
  clear e
  simp only [Act.put, List.setIfInBounds_toArray, List.set_cons_succ, List.set_cons_zero]
  refine ⟨.inl ⟨rfl, fun dd w' hd hC hDs => ?_⟩, fun e => ?_⟩
  · exact gE_load tBk rfl (b2.out.below hC b2.out.lt).head ⟨rfl, hC, Below.refl _ _, nD_none rfl⟩
  have e' : vs 2 = _ := e
  rw [e']
  clear e e'
  simp only [Act.put, List.setIfInBounds_toArray, List.set_cons_succ, List.set_cons_zero]
  refine ⟨.inl ⟨rfl, fun dd w' hd hC hDs => ?_⟩, fun e => ?_⟩
  · obtain ⟨g, e3, h3, _⟩ := hDs 1 (by kernel_rfl) rfl
    rw [e3]
    go_simp
    refine (seal_any (AesM.ks (ls AesM.exK)) (ls AesM.exB) false (AesM.ks_bt exK_bt) exB_bt g w' h3).mono ?_
    rintro e w'' ⟨rfl, h4⟩
    exact ⟨_, rfl, rfl, hC.trans (h4.mono hC.size), h4, nD_none rfl⟩
  have e' : vs 3 = _ := e
  rw [e']
  clear e e'
  simp only [Act.put, List.setIfInBounds_toArray, List.set_cons_succ, List.set_cons_zero]
  refine ⟨.inl ⟨rfl, fun dd w' hd hC hDs => ?_⟩, fun e => ?_⟩
  · exact gE_build (by simp only [List.map_toArray, List.map_cons, List.map_nil]; exact HO.out w') ⟨rfl, hC, Below.refl _ _, nD_none rfl⟩
  have e' : vs 4 = _ := e
  rw [e']
  clear e e'
  simp only [Act.put, List.setIfInBounds_toArray, List.set_cons_succ, List.set_cons_zero]
  refine ⟨.inl ⟨rfl, fun dd w' hd hC hDs => ?_⟩, fun e => ?_⟩
  · exact gE_eql rfl rfl ⟨by rw [eqA_yes AesM.ex_one]; rfl, hC, Below.refl _ _, nD_none rfl⟩
  have e' : vs 5 = _ := e
  rw [e']
  clear e e'
  simp only [Act.put, List.setIfInBounds_toArray, List.set_cons_succ, List.set_cons_zero]
  refine ⟨.inl ⟨rfl, fun dd w' hd hC hDs => ?_⟩, fun e => ?_⟩
  · go_simp
    first | exact ⟨rfl, hC, Below.refl _ _, nD_none rfl⟩ | exact ⟨hC, Below.refl _ _, nD_none rfl⟩ | exact ⟨rfl, Below.refl _ _, nD_none rfl⟩ | exact ⟨Below.refl _ _, nD_none rfl⟩
  have e' : vs 6 = _ := e
  rw [e']
  clear e e'
  simp only [Act.put, List.setIfInBounds_toArray, List.set_cons_zero]
  intro dd w5 _ hw5 _
  have rb := hb.out.trans (hw5.mono hb.out.size)
  clear b1 b2 hb hw5
  go_wp2_with fail
  go_ret
  exact ⟨rfl, rb⟩
end AesP
end Go.Proofs.Ytbgpboplpdljoaa
