/-
  Contracts of pbkdf.Pass and of the document's Pass (casemateref05) over this translation.
-/
import Derived.Test.YtnnhnlabkbjacaaDoorTxt
import Derived.Test.YtnnhnlabkbjacaaDoorRefSha3
namespace Go.Proofs.YtnnhnlabkbjacaaDoor
open Go.ChangeShapes Go.WideShapes Go.ChangeAt Go.RowKit
attribute [local go_sem] Gives
set_option maxHeartbeats 400000 in
theorem ppass_bad (s : ByteArray) (h : s.size < 1 ∨ 48 < s.size) (w : World) :
    Calls Tryd.prog 13 #[.string s] w fun e w' => e = .returned (.tuple #[.slice none 0 0, .int .i64 2]) ∧ w = w' := by
  go_enter Tryd.func13, Tryd.ntmps13
  by_cases h1 : s.size < 1
  · have t1 : decide ((s.size : Int) < 1) = true := decide_eq_true (by omega)
    clear h
    go_wp2_with fail
    go_ret2
    exact ⟨rfl, rfl⟩
  · have t1 : decide ((s.size : Int) < 1) = false := decide_eq_false (by omega)
    have t2 : decide ((48 : Int) < (s.size : Int)) = true := decide_eq_true (by omega)
    clear h h1
    go_wp2_with fail
    go_ret2
    exact ⟨rfl, rfl⟩
set_option maxHeartbeats 400000 in
theorem ppass_any (s : ByteArray) (h1 : 1 ≤ s.size) (h2 : s.size ≤ 48) (w : World) :
    Calls Tryd.prog 13 #[.string s] w fun e w' => ∃ v, e = .returned (.tuple #[v, .int .i64 0]) ∧ Own 5 .u8 w' w.heap.size v (s.size :: nats s) ∧ Below w.heap.size w w' := by
  go_enter Tryd.func13, Tryd.ntmps13
  have t1 : decide ((s.size : Int) < 1) = false := decide_eq_false (by omega)
  have t2 : decide ((48 : Int) < (s.size : Int)) = false := decide_eq_false (by omega)
  have e1 : IntKind.u8.wrap (s.size : Int) = (s.size : Int) := IntWalk.u8_in _ (by omega)
  go_wp2_with (at_builtin; (with_reducible apply wappS); rfl; rfl; exact Own.lit1 (Nat.le_refl _); (simp; omega); (simp); intro v' w4 o4 g4)
  have O4 := hid o4
  have B4 := hid (below_grown ((Below.refl w.heap.size w).alloc (Nat.le_refl _) (.cells #[.int .u8 (s.size : Nat)] 5)) g4 (Own.lit1 (w := w) (x := s.size) (Nat.le_refl _)) (Nat.le_refl _) (Nat.le_refl _))
  clear o4 g4
  go_wp2_with fail
  go_ret2
  exact ⟨_, rfl, O4.out, B4.out⟩
set_option maxHeartbeats 400000 in
theorem rpwd_bad (s : ByteArray) (h : s.size < 1 ∨ 48 < s.size) (w : World) :
    Calls Tryd.prog 14 #[.string s] w fun e w' => e = .returned (.tuple #[.slice none 0 0, .int .i64 2]) ∧ w = w' := by
  go_enter Tryd.func14, Tryd.ntmps14
  by_cases h1 : s.size < 1
  · have e0 : s.size = 0 := by omega
    clear h h1
    go_wp2_with fail
    go_ret2
    exact ⟨rfl, rfl⟩
  · have t1 : ((s.size : Int) == 0) = false := by rw [beq_eq_false_iff_ne]; omega
    have t2 : decide ((48 : Int) < (s.size : Int)) = true := decide_eq_true (by omega)
    clear h
    go_wp2_with fail
    go_ret2
    exact ⟨rfl, rfl⟩
set_option maxHeartbeats 400000 in
theorem rpwd_any (s : ByteArray) (h1 : 1 ≤ s.size) (h2 : s.size ≤ 48) (w : World) :
    Calls Tryd.prog 14 #[.string s] w fun e w' => ∃ v, e = .returned (.tuple #[v, .int .i64 0]) ∧ Own 5 .u8 w' w.heap.size v (s.size :: nats s) ∧ Below w.heap.size w w' := by
  go_enter Tryd.func14, Tryd.ntmps14
  have t1 : ((s.size : Int) == 0) = false := by rw [beq_eq_false_iff_ne]; omega
  have t2 : decide ((48 : Int) < (s.size : Int)) = false := decide_eq_false (by omega)
  have e1 : IntKind.u8.wrap (s.size : Int) = (s.size : Int) := IntWalk.u8_in _ (by omega)
  go_wp2_with fail
  have O1 := hid (Own.lit1 (w := w) (B := w.heap.size) (x := s.size) (Nat.le_refl _))
  have B1 := hid ((Below.refl w.heap.size w).alloc (Nat.le_refl _) (.cells #[.int .u8 (s.size : Nat)] 5))
  clear t1 t2 e1
  go_loopw [4, 5] (fun u v wr => ∃ (i : Nat) (vs : Value), i ≤ s.size ∧ v = .int .i64 i ∧ u = vs ∧ Hid (Own 5 .u8 wr w.heap.size vs (s.size :: (nats s).take i)) ∧ Hid (Below w.heap.size w wr)) (fun _ v _ => s.size - (intOf v).toNat)
  case atStart => exact ⟨0, _, by omega, rfl, rfl, O1, B1⟩
  case round =>
    clear O1 B1
    obtain ⟨i, vs, hi, rfl, rfl, ho, hb⟩ := hrel
    by_cases hlt : i < s.size
    · have ti : (i : Int) < (s.size : Int) := by omega
      have hidx := fun w => run_idxs s hlt w
      have hil : i < (nats s).length := by rw [nats_length]; exact hlt
      have hst : (nats s).take (i + 1) = (nats s).take i ++ [(nats s).getD i 0] := by rw [List.take_succ_eq_append_getElem hil, ← nums_at hil]
      have hx : (nats s).getD i 0 < 256 := by rw [nums_at hil]; exact nats_256 s _ (List.getElem_mem hil)
      generalize (nats s).getD i 0 = x at *
      have HST := hid hst
      have hlen : (s.size :: (nats s).take i).length = i + 1 := by rw [List.length_cons, List.length_take, nats_length]; omega
      have HLEN := hid hlen
      clear hst hlen hil
      go_wp2_with (at_builtin; (with_reducible apply wappN eltB); rfl; rfl; exact ho.out.alloc _; exact nums_one (x := x) (B := wr.heap.size + 1) rfl (Nat.lt_succ_self _); rfl; (rw [HLEN.out]; omega); (simp; have := hb.out.size; omega); intro v' w4 o4 g4)
      have b4 := below_grown (hb.out.alloc hb.out.size (.cells #[.int .u8 (x : Nat)] 5)) g4 ho.out (Nat.le_refl _) (Nat.le_refl _)
      go_roundw
      case rel => exact ⟨i + 1, v', by omega, by go_num, rfl, hid (by rw [HST.out, ← List.cons_append]; exact o4), hid b4⟩
      case measure => simp [intOf] <;> omega
    · obtain rfl : i = s.size := by omega
      have o9 := ho.out
      rw [List.take_of_length_le (by rw [nats_length]; omega)] at o9
      have O9 := hid o9
      clear o9 ho
      go_wp2_with fail
      go_ret2
      exact ⟨_, rfl, O9.out, hb.out⟩
end Go.Proofs.YtnnhnlabkbjacaaDoor
