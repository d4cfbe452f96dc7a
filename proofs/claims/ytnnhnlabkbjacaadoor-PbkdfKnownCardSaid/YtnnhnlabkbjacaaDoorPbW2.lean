/-
  The walk of PbkdfKnown.
-/
import Derived.Test.YtnnhnlabkbjacaaDoorPbW1
import Derived.Laws.OwnMore
namespace Go.Proofs.YtnnhnlabkbjacaaDoor
open Go.ChangeShapes Go.WideShapes Go.ChangeAt Go.RowKit
attribute [local go_sem] Gives
theorem ltwo_any (w : World) : Calls Tryd.prog 16 #[] w fun e w' => e = .returned (.string twoB) ∧ w = w' := by
  go_enter Tryd.func16, Tryd.ntmps16
  go_wp2_with fail
  go_ret
  exact ⟨rfl, rfl⟩
theorem nums_zero (n : Nat) : nums .u8 (List.replicate n 0) = List.replicate n (.int .u8 0) := by
  unfold nums; rw [List.map_replicate]; rfl
/-- n bytes 0. -/
theorem mkz {ops : Array Oper} {Q : Exit → Act → World → Prop} {a : Act} {w : World} {rest : List Oper} {dst : Option Tmp} {ty : TypeId} {pos : String} {after : Array Edge} {x y : Operand} {n : Nat} (hn : n ≤ 10000)
    (hx : a.eval x = .int .i64 n) (hy : a.eval y = .int .i64 (n : Int)) (h : ∀ v w', Own 5 .u8 w' w.heap.size v (List.replicate n 0) → Below w.heap.size w w' → wpList Tryd.prog ops Q rest (a.put dst v) w') :
    wpList Tryd.prog ops Q (⟨dst, .makeSlice 22 x y, ty, pos, after, none⟩ :: rest) a w := by
  obtain ⟨i, hi, hz, h1, h2⟩ := eltB.inf
  obtain ⟨w', hr, ho, hg⟩ := run_makeSlice_full (P := Tryd.prog) w w.heap.size 22 5 i (.int .u8 0) 1 eltB.und hi hz h1 .i64 .i64 n (by omega) (Nat.le_trans (Nat.mul_le_mul h2 hn) (by omega)) (by unfold maxLen; omega) (Nat.le_refl _)
  refine wpList_plain rfl fun K hK => ?_
  unfold Oper.wp execOp
  simp only [Sem.run_bind, hx, hy, hr, Result.andThen_ok]
  refine hK _ _ (h _ w' ?_ (below_none (Below.refl _ _) hg (Nat.le_refl _)))
  have e : (madeCells (Value.int IntKind.u8 0).cells (n * 1)).toList = List.replicate n (.int .u8 0) := by
    unfold madeCells
    apply List.ext_getElem?
    intro j
    simp [Value.cells, Nat.mod_one, List.getElem?_replicate]
    by_cases h : j < n
    · rw [List.getElem?_range h, if_pos h]; rfl
    · rw [List.getElem?_eq_none (by simp; omega), if_neg h]; rfl
  unfold Own
  rw [List.length_replicate, nums_zero, ← e]
  exact ho
def zB (n : Nat) : ByteArray := str (List.replicate n 0)
theorem zB_size (n : Nat) : (zB n).size = n := by
  show (str (List.replicate n 0)).data.size = n
  simp [str, u8s]
theorem zeros_256 (n : Nat) : B256 (List.replicate n 0) := fun x hx => by rw [(List.mem_replicate.1 hx).2]; omega
theorem key_five' : str (PbM.key pwL saltL 1 5) = oneB.extract 0 5 := key_five.trans (by decide +kernel)
set_option maxHeartbeats 1000000 in
set_option maxRecDepth 100000 in
theorem known_law (w : World) (hS : Salts w) :
    Calls Tryd.prog 5 #[] w fun e w' => e = .returned (.bool true) ∧ Below w.heap.size w w' := by
  have SA := hid hS
  clear hS
  go_enter Tryd.func5, Tryd.ntmps5
  go_wp2_with fail
  refine (ppass_bad ⟨#[]⟩ (.inl (by decide)) w).mono ?_
  rintro e w' ⟨rfl, rfl⟩
  go_wp2_with ((with_reducible apply mkz (n := 49)); omega; rfl; rfl; intro v1 w1 o1 b1; obtain ⟨A1, c1, e1, a1⟩ := o1.arg (zeros_256 49); rw [List.length_replicate] at e1 a1; subst e1; have s1 := a1.str; have B1 := hid b1; clear o1 b1 a1)
  refine (ppass_bad (zB 49) (.inr (by rw [zB_size]; omega)) w1).mono ?_
  rintro e w' ⟨rfl, rfl⟩
  clear s1
  go_wp2_with ((with_reducible apply mkz (n := 48)); omega; rfl; rfl; intro v2 w2 o2 b2; obtain ⟨A2, c2, e2, a2⟩ := o2.arg (zeros_256 48); rw [List.length_replicate] at e2 a2; subst e2; have s2 := a2.str; have B2 := hid (B1.out.trans (b2.mono B1.out.size)); clear o2 b2 a2 B1)
  refine (ppass_any (zB 48) (by rw [zB_size]; omega) (by rw [zB_size]; omega) w2).mono ?_
  rintro e w3 ⟨v3, rfl, o3, h3⟩
  obtain ⟨A3', c3, e3, a3⟩ := o3.arg (pass_256 (by rw [zB_size]; omega))
  rw [List.length_cons, nats_length, zB_size] at e3 a3
  subst e3
  obtain ⟨gy, oy, ey⟩ : ∃ gy oy, A3' = some ⟨gy, oy, none⟩ := by
    obtain ⟨gy, oy, ey, _⟩ := a3.byt (by rw [List.length_cons]; omega)
    exact ⟨gy, oy, ey⟩
  subst ey
  have A3 := hid a3
  have B3 := hid (B2.out.trans (h3.mono B2.out.size))
  clear s2 o3 h3 a3 B2
  clear w2 w1
  go_wp2_with fail
  refine (awake_any w3 (SA.out.on B3.out)).mono ?_
  rintro e w4 ⟨rfl, h4⟩
  have A4 := hid (A3.out.on h4)
  have B4 := hid (B3.out.trans (h4.mono B3.out.size))
  clear h4 A3 B3
  clear w3
  go_wp2_with fail
  refine (ltwo_any w4).mono ?_
  rintro e w' ⟨rfl, rfl⟩
  go_wp2_with fail
  refine (is_any 2 32 (by omega) (by omega) (by omega) (by omega) twoB key_two w4 (SA.out.on B4.out)).mono ?_
  rintro e w5 ⟨rfl, h5⟩
  have A5 := hid (A4.out.on h5)
  have B5 := hid (B4.out.trans (h5.mono B4.out.size))
  clear h5 A4 B4
  clear w4
  go_wp2_with fail
  refine (one_any w5).mono ?_
  rintro e w' ⟨rfl, rfl⟩
  go_wp2_with fail
  refine (is_any 1 5 (by omega) (by omega) (by omega) (by omega) (oneB.extract 0 5) key_five' w5 (SA.out.on B5.out)).mono ?_
  rintro e w6 ⟨rfl, h6⟩
  have A6 := hid (A5.out.on h6)
  have B6 := hid (B5.out.trans (h6.mono B5.out.size))
  clear h6 A5 B5
  clear w5
  go_wp2_with fail
  refine (no_any 0 32 (by omega) w6).mono ?_
  rintro e w7 ⟨rfl, h7⟩
  have A7 := hid (A6.out.on h7)
  have B7 := hid (B6.out.trans (h7.mono B6.out.size))
  clear h7 A6 B6
  clear w6
  go_wp2_with fail
  refine (no_any 4097 32 (by omega) w7).mono ?_
  rintro e w8 ⟨rfl, h8⟩
  have A8 := hid (A7.out.on h8)
  have B8 := hid (B7.out.trans (h8.mono B7.out.size))
  clear h8 A7 B7
  clear w7
  go_wp2_with fail
  refine (no_any 1 0 (by omega) w8).mono ?_
  rintro e w9 ⟨rfl, h9⟩
  have A9 := hid (A8.out.on h9)
  have B9 := hid (B8.out.trans (h9.mono B8.out.size))
  clear h9 A8 B8
  clear w8
  go_wp2_with fail
  refine (no_any 1 129 (by omega) w9).mono ?_
  rintro e w10 ⟨rfl, h10⟩
  have A10 := hid (A9.out.on h10)
  have B10 := hid (B9.out.trans (h10.mono B9.out.size))
  clear h10 A9 B9
  clear w9
  obtain ⟨gx, ox, ex, hgx, hcell⟩ := A10.out.byt (by rw [List.length_cons]; omega)
  cases ex
  have q0 := hcell 0 (by rw [List.length_cons]; omega)
  rw [show (48 :: nats (zB 48)).getD 0 0 = 48 from rfl, Nat.add_zero] at q0
  have hn := nats_length (zB 48)
  clear hcell hgx A10 hn
  go_wp2_with fail
  go_ret
  exact ⟨rfl, B10.out⟩
end Go.Proofs.YtnnhnlabkbjacaaDoor
