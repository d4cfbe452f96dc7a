/-
  Contract of the document's Row (casemateref06) over this translation.
-/
import Derived.Test.YtiebaiofpihoiaaByRow
namespace Go.Proofs.Ytiebaiofpihoiaa
open Go.ChangeShapes Go.WideShapes Go.ChangeAt Go.RowKit
attribute [local go_sem] Gives
/-- A literal of two bytes is the call's own. -/
theorem Own.lit2 {w : World} {B x y : Nat} (hB : B ≤ w.heap.size) : Own 5 .u8 (w.alloc (.cells #[.int .u8 (x : Nat), .int .u8 (y : Nat)] 5)) B (.slice (some ⟨w.heap.size, 0, none⟩) 2 2) [x, y] :=
  ⟨rfl, .inr ⟨w.heap.size, 2, _, rfl, hB, heap_alloc_new w _, Nat.le_refl _, by unfold maxLen; omega, rfl, rfl⟩⟩
set_option maxHeartbeats 400000 in
theorem rrow_any (d : Nat) (A : Option Addr) (ls : List (List Nat)) (n cap : Nat) (hn : n ≤ 16) (hz : (BytM.flatP ls).length ≤ 800000) (W : World) (h : Rws W A ls n cap) :
    Calls Try.prog 17 #[.int .u8 d, .slice A n cap] W fun e w' => ∃ v, e = .returned (.tuple #[v, .int .i64 0]) ∧ Own 5 .u8 w' W.heap.size v (BytM.rowB d ls) ∧ Below W.heap.size W w' := by
  have t : decide ((16 : Int) < (n : Int)) = false := decide_eq_false (by omega)
  have H := hid h
  have HZ := hid hz
  clear h hz
  go_enter Try.func17, Try.ntmps17
  go_upto_region 4 with fail
  generalize hw2 : World.alloc W _ = w2
  have O2 : Hid (Own 5 .u8 w2 W.heap.size (.slice (some ⟨W.heap.size, 0, none⟩) 2 2) [d, n]) := hid (by rw [← hw2]; exact Own.lit2 (Nat.le_refl _))
  have B2 : Hid (Below W.heap.size W w2) := hid (by rw [← hw2]; exact (Below.refl _ _).alloc (Nat.le_refl _) _)
  clear t hw2
  go_wp2_with fail
  go_loopw [6, 7] (fun u i wr => ∃ (j : Nat) (vo : Value), j ≤ n ∧ i = .int .i64 j ∧ u = vo ∧ Hid (Own 5 .u8 wr W.heap.size vo (d :: n :: BytM.flatP (ls.take j))) ∧ Hid (Below W.heap.size W wr)) (fun _ i _ => n - (intOf i).toNat)
  case atStart => exact ⟨0, _, by omega, rfl, rfl, O2, B2⟩
  case round =>
    clear O2 B2
    obtain ⟨j, vo, hj, rfl, rfl, ho, hb⟩ := hrel
    by_cases hlt2 : j < n
    · have tj : (j : Int) < (n : Int) := by omega
      obtain ⟨b, o, A', c, rfl, hbl, q0, a1⟩ := H.out.part hlt2
      have Q0 := hid fun w' (hw : Below W.heap.size W w') => (hw.cell (p := ⟨b, o + j, none⟩) hbl).trans q0
      have q1 := Q0.out _ hb.out
      have hst := flatP_step (ls := ls) (i := j) (by rw [H.out.len]; exact hlt2)
      have hle := flatP_take_le ls (j + 1)
      rw [hst, List.length_append, List.length_append, BytM.dig_length] at hle
      have hM : (ls.getD j []).length ≤ 800000 := by have := HZ.out; omega
      have hLt : (BytM.flatP (ls.take j)).length ≤ 800000 := by have := HZ.out; omega
      have HLT := hid hLt
      have ST := hid hst
      generalize ls.getD j [] = m at *
      have A1 := hid a1
      have HLE := hid (Nat.le_trans hle HZ.out)
      clear hst hle hLt a1 q0
      obtain ⟨M, hMe⟩ : ∃ M, M = m.length := ⟨_, rfl⟩
      rw [← hMe] at q1 hM Q0
      have ME := hid hMe
      rw [← hMe] at ST
      clear hMe
      have D := hid (rdig_any 4 M (by omega) (by omega) (by omega) wr)
      have hd := BytM.dig_256 4 M
      have hdl := BytM.dig_length 4 M
      generalize BytM.dig 4 M = dg at *
      have H6 := hid hd
      have DL := hid hdl
      clear hd hdl
      go_wp2_with fail
      refine D.out.mono ?_
      rintro e w5 ⟨v5, rfl, o5, b5⟩
      obtain ⟨A5, c5, e5, a5⟩ := o5.arg H6.out
      subst e5
      have B5 := hid (hb.out.trans (b5.mono hb.out.size))
      have O5 := hid (ho.out.below b5)
      have A5' := hid a5
      have q5 := Q0.out _ B5.out
      have p5 := A1.out.on B5.out
      rw [← ME.out] at p5
      have P5 := hid p5
      clear o5 b5 a5 q1 p5
      go_upto_region 8 with (at_builtin; (with_reducible apply wappN_any eltB); rfl; rfl; exact A5'.out.none; exact O5.out; exact A5'.out.byt.nums; rfl; (simp only [List.length_cons]; have := HLE.out; have := DL.out; omega); exact B5.out.size; intro v6 w6 o6 g6)
      have B6 := hid (below_grown B5.out g6 O5.out (Nat.le_refl _) (Nat.le_refl _))
      have O6 := hid o6
      have q6 := Q0.out _ B6.out
      have p6 := A1.out.on B6.out
      rw [← ME.out] at p6
      have P6 := hid p6
      clear o6 g6 q5 p6 P5 O5 B5
      go_wp2_with (at_builtin; (with_reducible apply wappN_any eltB); rfl; rfl; exact P6.out.none; exact O6.out; exact P6.out.byt.nums; exact ME.out.symm; (simp only [List.length_append, List.length_cons]; have := HLE.out; have := ME.out; have := DL.out; omega); exact B6.out.size; intro v7 w7 o7 g7)
      have b7 := below_grown B6.out g7 O6.out (Nat.le_refl _) (Nat.le_refl _)
      go_roundw
      case rel => exact ⟨j + 1, v7, by omega, by go_num, rfl, hid (by rw [ST.out, ← List.append_assoc]; exact o7), hid b7⟩
      case measure => simp [intOf] <;> omega
    · obtain rfl : j = n := by omega
      have ho2 := ho.out
      rw [List.take_of_length_le (by rw [H.out.len]; exact Nat.le_refl _)] at ho2
      have O2 := hid ho2
      have HN := hid H.out.len
      clear ho2 ho
      go_wp2_with fail
      go_ret2
      refine ⟨_, rfl, ?_, hb.out⟩
      unfold BytM.rowB
      rw [HN.out]
      exact O2.out
end Go.Proofs.Ytiebaiofpihoiaa
