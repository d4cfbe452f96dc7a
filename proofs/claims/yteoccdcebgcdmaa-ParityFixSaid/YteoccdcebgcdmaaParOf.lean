/-
  Contracts of casematelaw02.filled, parity.Of, casematelaw02.works.
-/
import Derived.Test.YteoccdcebgcdmaaParSums
namespace Go.Proofs.Yteoccdcebgcdmaa
open Go.ChangeShapes Go.WideShapes Go.ChangeAt Go.RowKit
attribute [local go_sem] Gives
set_option maxRecDepth 100000 in
theorem filled_any (c : Nat) (w : World) :
    Calls Try.prog 23 #[.int .u8 c] w fun e w' => e = .returned (.agg (sec fun _ => c)) ∧ Below w.heap.size w w' := by
  go_enter Try.func23, Try.ntmps23
  go_wp2_with fail
  generalize hw3 : World.alloc (World.alloc w _) _ = w3
  have b1 : Blk w3 w.heap.size 25 (sec fun _ => 0) := by rw [← hw3]; exact (Blk.top zlit rfl).alloc _
  have b2 : Blk w3 (w.heap.size + 1) 25 (sec fun _ => 0) := by rw [← hw3]; exact Blk.top zlit (by simp)
  have hb : Below w.heap.size w w3 := by rw [← hw3]; exact ((Below.refl _ _).alloc (Nat.le_refl _) _).alloc (by simp) _
  clear hw3
  go_loopw [4] (fun i wr => ∃ k : Nat, k ≤ 64 ∧ i = .int .i64 k ∧ Blk wr w.heap.size 25 (sec fun _ => 0) ∧ Blk wr (w.heap.size + 1) 25 (sec (upto k (fun _ => 0) fun _ => c)) ∧ Below w.heap.size w wr) (fun i _ => 64 - (intOf i).toNat)
  case atStart => exact ⟨0, by omega, rfl, b1, by rw [upto_zero]; exact b2, hb⟩
  case round =>
    obtain ⟨k, hk, rfl, b1, b2, hb⟩ := hrel
    by_cases hlt : k < 64
    · have c1 : wr.cell? ⟨w.heap.size + 1, k, none⟩ = some (.int .u8 (0 : Nat)) := by rw [b2.cell, get_sec hlt, upto_at]
      have c3 := b2.frozen k
      go_wp2_with fail
      go_roundw
      case rel => exact ⟨k + 1, by omega, by go_num, b1.setCell_other (by simp) _, upto_step (h := fun _ => c) (b2.setCell_same k _), hb.setCell (by simp) _⟩
      case measure => simp [intOf]; omega
    · rw [upto_all (by omega)] at b2
      go_wp2_with (first | ((with_reducible apply ld); rfl; assumption) | ((with_reducible apply stx); rfl; rfl; assumption))
      apply ret_sec Try.results23
      · rfl
      · rfl
      · exact b1.setRow_same _
      exact ⟨rfl, below_setRow hb (by omega) _⟩
/-- P2.1, of one to 62. -/
theorem of_some (A : Option Addr) (n cap : Nat) (F : Nat → Nat → Nat) (hF : ∀ i k, F i k < 256) (h0 : 0 < n) (hn : n ≤ 62) (w : World) (hs : Secs w w.heap.size A n F) :
    Calls Try.prog 11 #[.slice A n cap] w fun e w' => e = .returned (.tuple #[.agg (sec (PP F n)), .agg (sec (QQ F n)), .int .i64 0]) ∧ Below w.heap.size w w' := by
  have HF := hid hF
  have HS := hid hs
  clear hF hs
  have t0 : ((n : Int) == 0) = false := by rw [beq_eq_false_iff_ne]; omega
  go_enter Try.func11, Try.ntmps11
  go_wp2_with fail
  generalize hw3 : World.alloc (World.alloc w _) _ = w3
  have b1 : Blk w3 w.heap.size 25 (sec fun _ => 0) := by rw [← hw3]; exact (Blk.top zlit rfl).alloc _
  have b2 : Blk w3 (w.heap.size + 1) 25 (sec fun _ => 0) := by rw [← hw3]; exact Blk.top zlit (by simp)
  have hb : Below w.heap.size w w3 := by rw [← hw3]; exact ((Below.refl _ _).alloc (Nat.le_refl _) _).alloc (by simp) _
  clear hw3
  refine (sums_any A n cap F HF.out (by omega) w3 ?_).mono ?_
  · exact (HS.out.below hb (Nat.le_refl _)).more hb.size
  rintro e w4 ⟨rfl, hb'⟩
  have b1' := b1.below hb' b1.lt
  have b2' := (b2.below hb' b2.lt).setRow_other (g' := w.heap.size) (by omega) (sec (PP F n))
  have hb4 := hb.trans (hb'.mono hb.size)
  clear hb' b1 b2 hb
  go_wp2_with ((with_reducible apply stx); rfl; rfl; assumption)
  have b1 := (b1'.setRow_same (sec (PP F n))).setRow_other (g' := w.heap.size + 1) (by omega) (sec (QQ F n))
  have b2 := b2'.setRow_same (sec (QQ F n))
  have hb := below_setRow (below_setRow hb4 (Nat.le_refl _) (sec (PP F n))) (g := w.heap.size + 1) (by omega) (sec (QQ F n))
  revert b1 b2 hb
  generalize (w4.setRow w.heap.size (sec (PP F n))).setRow (w.heap.size + 1) (sec (QQ F n)) = wr
  clear b1' b2' hb4 w4
  intro b1 b2 hb
  go_wp2_with fail
  refine wp_region_tail (C := fun w' => Blk w' w.heap.size 25 (sec (PP F n)) ∧ Blk w' (w.heap.size + 1) 25 (sec (QQ F n)) ∧ Below w.heap.size w w') 5 (by kernel_rfl) (by kernel_rfl) (by kernel_rfl) ⟨b1.drew, b2.drew, hb.drew⟩ ?_
  simp only [List.take_succ_cons, List.take_zero, List.drop_succ_cons, List.drop_zero]
  apply kld
  · rfl
  · rfl
  · exact fun w' hw' => hw'.1
  simp only [Act.put, List.setIfInBounds_toArray, List.set_cons_succ, List.set_cons_zero]
  apply kld
  · rfl
  · rfl
  · exact fun w' hw' => hw'.2.1
  simp only [Act.put, List.setIfInBounds_toArray, List.set_cons_succ, List.set_cons_zero]
  apply kst_id
  · rfl
  · rfl
  · rfl
  · exact fun w' hw' => hw'.1
  simp only [Act.put]
  apply kst_id
  · rfl
  · rfl
  · rfl
  · exact fun w' hw' => hw'.2.1
  simp only [Act.put]
  apply wpK_val
  · rfl
  · intro w' hw'
    go_simp
    first | exact rfl | exact ⟨rfl, hw'⟩
  simp only [Act.put, List.setIfInBounds_toArray, List.set_cons_succ, List.set_cons_zero]
  refine wpK_nil fun w4 ⟨h1, h2, h3⟩ => ?_
  go_wp2_with fail
  apply ret_sec2t Try.results11
  · rfl
  · rfl
  · rfl
  · rfl
  · exact h1
  · exact h2
  exact ⟨rfl, h3⟩
/-- P2.1, of none. -/
theorem of_none (A : Option Addr) (cap : Nat) (w : World) :
    Calls Try.prog 11 #[.slice A 0 cap] w fun e w' => e = .returned (.tuple #[.agg (sec fun _ => 0), .agg (sec fun _ => 0), .int .i64 2]) ∧ Below w.heap.size w w' := by
  go_enter Try.func11, Try.ntmps11
  go_wp2_with fail
  generalize hw3 : World.alloc (World.alloc w _) _ = w3
  have b1 : Blk w3 w.heap.size 25 (sec fun _ => 0) := by rw [← hw3]; exact (Blk.top zlit rfl).alloc _
  have b2 : Blk w3 (w.heap.size + 1) 25 (sec fun _ => 0) := by rw [← hw3]; exact Blk.top zlit (by simp)
  have hb : Below w.heap.size w w3 := by rw [← hw3]; exact ((Below.refl _ _).alloc (Nat.le_refl _) _).alloc (by simp) _
  clear hw3
  refine wp_region_tail (C := fun w' => Blk w' w.heap.size 25 (sec fun _ => 0) ∧ Blk w' (w.heap.size + 1) 25 (sec fun _ => 0) ∧ Below w.heap.size w w') 5 (by kernel_rfl) (by kernel_rfl) (by kernel_rfl) ⟨b1.drew, b2.drew, hb.drew⟩ ?_
  simp only [List.take_succ_cons, List.take_zero, List.drop_succ_cons, List.drop_zero]
  apply kld
  · rfl
  · rfl
  · exact fun w' hw' => hw'.1
  simp only [Act.put, List.setIfInBounds_toArray, List.set_cons_succ, List.set_cons_zero]
  apply kld
  · rfl
  · rfl
  · exact fun w' hw' => hw'.2.1
  simp only [Act.put, List.setIfInBounds_toArray, List.set_cons_succ, List.set_cons_zero]
  apply kst_id
  · rfl
  · rfl
  · rfl
  · exact fun w' hw' => hw'.1
  simp only [Act.put]
  apply kst_id
  · rfl
  · rfl
  · rfl
  · exact fun w' hw' => hw'.2.1
  simp only [Act.put]
  apply wpK_val
  · rfl
  · intro w' hw'
    go_simp
    first | exact rfl | exact ⟨rfl, hw'⟩
  simp only [Act.put, List.setIfInBounds_toArray, List.set_cons_succ, List.set_cons_zero]
  refine wpK_nil fun w4 ⟨h1, h2, h3⟩ => ?_
  go_wp2_with fail
  apply ret_sec2t Try.results11
  · rfl
  · rfl
  · rfl
  · rfl
  · exact h1
  · exact h2
  exact ⟨rfl, h3⟩
/-- P2.1, of more than 62. -/
theorem of_long (A : Option Addr) (n cap : Nat) (hn : 62 < n) (hm : n ≤ 1000000000000000) (w : World) :
    Calls Try.prog 11 #[.slice A n cap] w fun e w' => e = .returned (.tuple #[.agg (sec fun _ => 0), .agg (sec fun _ => 0), .int .i64 3]) ∧ Below w.heap.size w w' := by
  have t0 : ((n : Int) == 0) = false := by rw [beq_eq_false_iff_ne]; omega
  go_enter Try.func11, Try.ntmps11
  go_wp2_with fail
  generalize hw3 : World.alloc (World.alloc w _) _ = w3
  have b1 : Blk w3 w.heap.size 25 (sec fun _ => 0) := by rw [← hw3]; exact (Blk.top zlit rfl).alloc _
  have b2 : Blk w3 (w.heap.size + 1) 25 (sec fun _ => 0) := by rw [← hw3]; exact Blk.top zlit (by simp)
  have hb : Below w.heap.size w w3 := by rw [← hw3]; exact ((Below.refl _ _).alloc (Nat.le_refl _) _).alloc (by simp) _
  clear hw3
  refine wp_region_tail (C := fun w' => Blk w' w.heap.size 25 (sec fun _ => 0) ∧ Blk w' (w.heap.size + 1) 25 (sec fun _ => 0) ∧ Below w.heap.size w w') 5 (by kernel_rfl) (by kernel_rfl) (by kernel_rfl) ⟨b1.drew, b2.drew, hb.drew⟩ ?_
  simp only [List.take_succ_cons, List.take_zero, List.drop_succ_cons, List.drop_zero]
  apply kld
  · rfl
  · rfl
  · exact fun w' hw' => hw'.1
  simp only [Act.put, List.setIfInBounds_toArray, List.set_cons_succ, List.set_cons_zero]
  apply kld
  · rfl
  · rfl
  · exact fun w' hw' => hw'.2.1
  simp only [Act.put, List.setIfInBounds_toArray, List.set_cons_succ, List.set_cons_zero]
  apply kst_id
  · rfl
  · rfl
  · rfl
  · exact fun w' hw' => hw'.1
  simp only [Act.put]
  apply kst_id
  · rfl
  · rfl
  · rfl
  · exact fun w' hw' => hw'.2.1
  simp only [Act.put]
  apply wpK_val
  · rfl
  · intro w' hw'
    go_simp
    first | exact rfl | exact ⟨rfl, hw'⟩
  simp only [Act.put, List.setIfInBounds_toArray, List.set_cons_succ, List.set_cons_zero]
  refine wpK_nil fun w4 ⟨h1, h2, h3⟩ => ?_
  go_wp2_with fail
  apply ret_sec2t Try.results11
  · rfl
  · rfl
  · rfl
  · rfl
  · exact h1
  · exact h2
  exact ⟨rfl, h3⟩
end Go.Proofs.Yteoccdcebgcdmaa
