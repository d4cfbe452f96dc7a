/-
  Contracts of bytes.isWidth, copied, lay, Num and Text over this translation.
-/
import Derived.Test.YtiebaiofpihoiaaBytM
import Derived.Test.YtiebaiofpihoiaaMk0
import Derived.Test.YtiebaiofpihoiaaTxt
import Derived.Test.YtiebaiofpihoiaaRegNew
namespace Go.Proofs.Ytiebaiofpihoiaa
open Go.ChangeShapes Go.WideShapes Go.ChangeAt Go.RowKit
attribute [local go_sem] Gives
theorem beq_false {a b : Int} (h : a ≠ b) : (a == b) = false := by rw [beq_eq_false_iff_ne]; exact h
set_option maxHeartbeats 400000 in
theorem isw_any (w : Int) (W : World) : Calls Try.prog 34 #[.int .i64 w] W fun e w' => e = .returned (.bool (BytM.isW w)) ∧ W = w' := by
  have hb : BytM.isW w = BytM.isW w := rfl
  by_cases h1 : w = 1
  · subst h1
    go_enter Try.func34, Try.ntmps34
    go_wp2_with fail
    go_ret
    exact ⟨rfl, rfl⟩
  by_cases h2 : w = 2
  · subst h2
    go_enter Try.func34, Try.ntmps34
    go_wp2_with fail
    go_ret
    exact ⟨rfl, rfl⟩
  by_cases h4 : w = 4
  · subst h4
    go_enter Try.func34, Try.ntmps34
    go_wp2_with fail
    go_ret
    exact ⟨rfl, rfl⟩
  by_cases h8 : w = 8
  · subst h8
    go_enter Try.func34, Try.ntmps34
    go_wp2_with fail
    go_ret
    exact ⟨rfl, rfl⟩
  have e : BytM.isW w = false := by simp [BytM.isW, h1, h2, h4, h8]
  rw [e]
  have t1 := beq_false h1
  have t2 := beq_false h2
  have t4 := beq_false h4
  have t8 := beq_false h8
  clear h1 h2 h4 h8 e hb
  go_enter Try.func34, Try.ntmps34
  go_wp2_with fail
  go_ret
  exact ⟨rfl, rfl⟩
set_option maxHeartbeats 400000 in
theorem copied_any (A : Option Addr) (l : List Nat) (n cap m : Nat) (hm : n + m ≤ 1000000) (w : World) (hA : Arg w A l n cap) :
    Calls Try.prog 36 #[.slice A n cap, .int .i64 m] w fun e w' => ∃ v, e = .returned v ∧ Own 5 .u8 w' w.heap.size v l ∧ Below w.heap.size w w' := by
  have HA := hid hA
  clear hA
  go_enter Try.func36, Try.ntmps36
  go_wp2_with (first | ((with_reducible apply mk0 (n := n + m)); exact hm; rfl; exact congrArg (Value.int .i64) (Int.natCast_add n m).symm; intro v3 w3 o3 b3) | (at_builtin; (with_reducible apply wappN_any eltB); rfl; rfl; exact HA.out.none; exact o3; exact (HA.out.on b3).byt.nums; exact HA.out.len; (simp; omega); exact b3.size; intro v4 w4 o4 g4))
  have B4 := hid (below_grown b3 g4 o3 (Nat.le_refl _) (Nat.le_refl _))
  have O4 := hid o4
  clear o3 b3 o4 g4
  go_wp2_with fail
  go_ret
  exact ⟨_, rfl, O4.out, B4.out⟩
end Go.Proofs.Ytiebaiofpihoiaa
