/-
  Arrays loaded, stored, held against each other, built, in regions that draw their order.
-/
import Derived.Test.YtfnepbkgmopjcaaAesOp
import Derived.Test.YtfnepbkgmopjcaaAesE
import Derived.Test.YtfnepbkgmopjcaaRegSet
import Derived.Test.YtfnepbkgmopjcaaRegEx
namespace Go.Proofs.Ytfnepbkgmopjcaa
open Go.ChangeShapes Go.WideShapes Go.ChangeAt Go.RowKit
open AesM (Bt ls Q16)
attribute [local go_sem] Gives GivesE
section
variable {a : Act} {w : World} {g h n m : Nat} {f f' : Nat → Nat} {T U : TypeId}
theorem run_ar_var {t : TypeId} (hT : ArT T n) (hb : Blk w g t (ar n f)) : (loadVar T ⟨g, 0, none⟩).run Try.prog w = .ok (.agg (ar n f)) w := by
  obtain ⟨d, h1, h2⟩ := hT.desc
  have := run_loadVar_mid (P := Try.prog) w g 0 T (ar n f).toList _ hb.head h1 h2 (hT.size.trans (by rw [Array.length_toList, size_ar]))
  rwa [Array.toArray_toList] at this
theorem ret_ar2 {t u : TypeId} {fn : Func} {R : Ending → World → Prop} {p q : Tmp} (hT : ArT T n) (hU : ArT U m) (hr : fn.results = #[.cell p T, .cell q U]) (hp : a.tmps.getD p undef = .pointer (some ⟨g, 0, none⟩)) (hq : a.tmps.getD q undef = .pointer (some ⟨h, 0, none⟩))
    (hdf : a.defers = []) (hb : Blk w g t (ar n f)) (hb' : Blk w h u (ar m f')) (hR : R (.returned (.tuple #[.agg (ar n f), .agg (ar m f')])) w) : bodyPost Try.prog fn R .ret a w := by
  refine bodyPost_ret ?_ hdf hR
  have hp' : a.tmps[p]?.getD undef = .pointer (some ⟨g, 0, none⟩) := by simpa using hp
  have hq' : a.tmps[q]?.getD undef = .pointer (some ⟨h, 0, none⟩) := by simpa using hq
  simp [results, hr, hp', hq', asAddr, run_ar_var hT hb, run_ar_var hU hb']
end
section
variable {ops : Array Oper} {a : Act} {rest : List Oper} {dst : Option Tmp} {ty : TypeId} {pos : String} {after : Array Edge} {x y : Operand} {g o n k : Nat} {f : Nat → Nat} {T : TypeId} {st : Nat → Bool} {D : (Nat → Bool) → World → Prop} {Qk : Act → Prop} {gd : Option (Nat × Bool)}
theorem mldA (hT : ArT T n) (hk : st k = false) (hwt : Region.wanted ⟨dst, .load T x, ty, pos, after, gd⟩ (yielded ops a.tmps) = true) (hx : a.eval x = .pointer (some ⟨g, o, none⟩)) (hb : ∀ d w, D d w → w.rangeAt g o (ar n f).toList) (h : wpM Try.prog ops st D Qk (k + 1) rest (a.put dst (.agg (ar n f)))) :
    wpM Try.prog ops st D Qk k (⟨dst, .load T x, ty, pos, after, gd⟩ :: rest) a :=
  wpM_val hk hwt (fun d w hw => gives_value (w' := w) (by simp only [execOp, hx, Sem.run_bind, run_ldm hT (hb d w hw), Result.andThen_ok, Sem.run_pure]) hw) h
theorem mstA {t : TypeId} (hT : ArT T n) (hk : st k = true) (hwt : Region.wanted ⟨dst, .store T x y, ty, pos, after, gd⟩ (yielded ops a.tmps) = true) (hx : a.eval x = .pointer (some ⟨g, 0, none⟩)) (hy : a.eval y = .agg (ar n f))
    (hb : ∀ d w, d k = false → D d w → ∃ f0, Blk w g t (ar n f0)) (hD : ∀ d w, d k = false → D d w → D (upB d k) (w.setRow g (ar n f))) (h : wpM Try.prog ops st D Qk (k + 1) rest (a.put dst undef)) :
    wpM Try.prog ops st D Qk k (⟨dst, .store T x y, ty, pos, after, gd⟩ :: rest) a :=
  wpM_put hk hwt (fun d w hd hw => gives_skip (w' := w.setRow g (ar n f)) (by
    obtain ⟨f0, hb0⟩ := hb d w hd hw
    have := run_storeVar_row (P := Try.prog) w g t T (ar n f0) (ar n f) hb0 (hT.size.trans (by rw [size_ar])) (by rw [size_ar, size_ar]) ar_one
    simp only [execOp, hx, hy, Instr.storeAt, Instr.sureAddr, Sem.run_bind, this, Result.andThen_ok, Sem.run_pure]) (hD d w hd hw)) h
end
section
variable {a : Act} {w : World} {dst : Option Tmp} {ty : TypeId} {pos : String} {after : Array Edge} {x : Operand} {g o n : Nat} {f : Nat → Nat} {T : TypeId} {gd : Option (Nat × Bool)} {R : Value → World → Prop}
theorem gE_load (hT : ArT T n) (hx : a.eval x = .pointer (some ⟨g, o, none⟩)) (hb : w.rangeAt g o (ar n f).toList) (hR : R (.agg (ar n f)) w) : GivesE Try.prog ⟨dst, .load T x, ty, pos, after, gd⟩ a w R := by
  unfold GivesE
  simp only [execOp, hx, Sem.run_bind, run_ldm hT hb, Result.andThen_ok, Sem.run_pure]
  exact hR
end
theorem eqg_bk : Try.prog.eqGuardType Try.prog.depth 35 = false := by kernel_rfl
theorem uBk : Try.prog.underlying 35 = some (.array 16 5) := Try.underlying35
section
variable {ops : Array Oper} {a : Act} {w : World} {rest : List Oper} {dst : Option Tmp} {ty r : TypeId} {pos : String} {after : Array Edge} {x y : Operand} {f g : Nat → Nat} {gd : Option (Nat × Bool)} {R : Value → World → Prop} {C : World → Prop} {Qk : Act → Prop}
theorem exec_eqA (hx : a.eval x = .agg (ar 16 f)) (hy : a.eval y = .agg (ar 16 g)) : (execOp a.eval ⟨dst, .binOp .eql 35 x y r, ty, pos, after, gd⟩).run Try.prog w = .ok (.value (.bool (eqA 16 f g))) w := by
  have h1 : (eqGuard .eql 35 x y (.agg (ar 16 f)) (.agg (ar 16 g))).run Try.prog w = .ok () w := by
    simp [eqGuard, eqg_bk, go_sem]
  simp only [execOp, hx, hy, Sem.run_bind, h1, run_eql_ar uBk, Result.andThen_ok, Sem.run_pure]
theorem gE_eql (hx : a.eval x = .agg (ar 16 f)) (hy : a.eval y = .agg (ar 16 g)) (hR : R (.bool (eqA 16 f g)) w) : GivesE Try.prog ⟨dst, .binOp .eql 35 x y r, ty, pos, after, gd⟩ a w R := by
  unfold GivesE
  rw [exec_eqA hx hy]
  exact hR
theorem keqA (b : Bool) (hwt : Region.wanted ⟨dst, .binOp .eql 35 x y r, ty, pos, after, gd⟩ (yielded ops a.tmps) = true) (hx : a.eval x = .agg (ar 16 f)) (hy : a.eval y = .agg (ar 16 g)) (hb : eqA 16 f g = b)
    (h : wpK Try.prog ops C Qk rest (a.put dst (.bool b))) : wpK Try.prog ops C Qk (⟨dst, .binOp .eql 35 x y r, ty, pos, after, gd⟩ :: rest) a :=
  wpK_val hwt (fun w hw => gives_value (w' := w) (by rw [exec_eqA hx hy, hb]) hw) h
theorem gE_build {parts : Array (Nat × Operand)} {T : TypeId} {cs : Array Value} (hb : (Instr.build T (parts.map fun (i, x) => (i, a.eval x))).run Try.prog w = .ok (.agg cs) w) (hR : R (.agg cs) w) : GivesE Try.prog ⟨dst, .build T parts, ty, pos, after, gd⟩ a w R := by
  unfold GivesE
  simp only [execOp, Sem.run_bind, hb, Result.andThen_ok, Sem.run_pure]
  exact hR
set_option maxRecDepth 100000 in
theorem kbldA {parts : Array (Nat × Operand)} {T : TypeId} {cs : Array Value} (hwt : Region.wanted ⟨dst, .build T parts, ty, pos, after, gd⟩ (yielded ops a.tmps) = true) (hb : ∀ w, (Instr.build T (parts.map fun (i, x) => (i, a.eval x))).run Try.prog w = .ok (.agg cs) w)
    (h : wpK Try.prog ops C Qk rest (a.put dst (.agg cs))) : wpK Try.prog ops C Qk (⟨dst, .build T parts, ty, pos, after, gd⟩ :: rest) a :=
  wpK_val hwt (fun w hw => gives_value (w' := w) (by simp only [execOp, Sem.run_bind, hb, Result.andThen_ok, Sem.run_pure]) hw) h
end
namespace AesP
/-- What the operations' values are like: told (some), or a pointer (none). -/
def nS (fx : List (Option Value)) (j : Nat) (v : Value) : Prop := match fx[j]? with
  | some (some u) => v = u
  | some none => ∃ g : Nat, v = .pointer (some ⟨g, 0, none⟩)
  | none => True
def nV (fx : List (Option Value)) (j : Nat) : Value := match fx[j]? with
  | some (some u) => u
  | some none => .pointer (some ⟨0, 0, none⟩)
  | none => undef
theorem nS_ok (fx : List (Option Value)) (j : Nat) : nS fx j (nV fx j) := by
  unfold nS nV
  cases fx[j]? with
  | none => trivial
  | some o => cases o with
    | none => exact ⟨0, rfl⟩
    | some u => rfl
/-- The operations of js yield ciphers of the key. -/
def nD (js : List Nat) (B : Nat) (K : Nat → Nat) (j : Nat) (vs : Nat → Value) (w : World) : Prop := js.contains j = true → ∃ g : Nat, vs j = .pointer (some ⟨g, 0, none⟩) ∧ Cip w g K false ∧ B ≤ g
theorem nD_below {js : List Nat} {B : Nat} {K : Nat → Nat} {j : Nat} {vs : Nat → Value} {w w' : World} (h : nD js B K j vs w) (hb : Below w.heap.size w w') : nD js B K j vs w' := fun e => by
  obtain ⟨g, h1, h2, h3⟩ := h e
  exact ⟨g, h1, Blk.below h2 hb (cip_lt h2), h3⟩
theorem nD_loc {js : List Nat} {B : Nat} {K : Nat → Nat} {i j : Nat} {vs : Nat → Value} {v : Value} {w : World} (hji : j ≠ i) (h : nD js B K j vs w) : nD js B K j (updV vs i v) w := by
  unfold nD at h ⊢
  rw [updV_ne _ _ hji]
  exact h
theorem nD_none {js : List Nat} {B : Nat} {K : Nat → Nat} {j : Nat} {vs : Nat → Value} {w : World} (h : js.contains j = false) : nD js B K j vs w := fun e => by rw [h] at e; cases e
theorem eql_yes {f g : Nat → Nat} (h : Q16 f g) (w : World) : (binOp .eql 35 (.agg (ar 16 f)) (.agg (ar 16 g))).run Try.prog w = .ok (.bool true) w := by
  rw [run_eql_ar uBk, eqA_yes h]
theorem exK_bt : Bt (ls AesM.exK) := fun i => by
  unfold ls
  have h : ∀ x ∈ AesM.exK, x < 256 := by decide
  rw [List.getD_eq_getElem?_getD]
  rcases Nat.lt_or_ge i AesM.exK.length with ha | ha
  · rw [List.getElem?_eq_getElem ha]; exact h _ (List.getElem_mem ha)
  · rw [List.getElem?_eq_none ha]; decide
theorem exB_bt : Bt (ls AesM.exB) := fun i => by
  unfold ls
  have h : ∀ x ∈ AesM.exB, x < 256 := by decide
  rw [List.getD_eq_getElem?_getD]
  rcases Nat.lt_or_ge i AesM.exB.length with ha | ha
  · rw [List.getElem?_eq_getElem ha]; exact h _ (List.getElem_mem ha)
  · rw [List.getElem?_eq_none ha]; decide
end AesP
end Go.Proofs.Ytfnepbkgmopjcaa
