/-
  The contract of parity.Change.
-/
import Derived.Test.YtkdnkppkmjgihaaParRow
import Derived.Test.YtkdnkppkmjgihaaParWorks
namespace Go.Proofs.Ytkdnkppkmjgihaa
open Go.ChangeShapes Go.WideShapes Go.ChangeAt Go.RowKit
attribute [local go_sem] Gives
attribute [local go_sem high] zero_row
/-- The row behind the change of data column i to D. -/
def chg (F : Nat → Nat → Nat) (i : Nat) (D : Nat → Nat) : Nat → Nat → Nat
  | 0 => fun k => F 0 k ^^^ (F 2 k ^^^ D k)
  | 1 => fun k => F 1 k ^^^ GfM.mul (GfM.pw i) (F 2 k ^^^ D k)
  | _ => D
set_option maxRecDepth 100000 in
theorem change_bad (F : Nat → Nat → Nat) (D : Nat → Nat) (i : Int) (hi : i < 0 ∨ 62 ≤ i) (w : World) :
    Calls Try.prog 19 #[.agg (secs 3 F), .int .i64 i, .agg (sec D)] w fun e w' => e = .returned (.tuple #[.agg (secs 3 z3), .int .i64 2]) ∧ Below w.heap.size w w' := by
  rcases Int.lt_or_le i 0 with h0 | h0
  all_goals (try (have h62 : 62 ≤ i := by omega))
  all_goals
    clear hi
    go_enter Try.func19, Try.ntmps19
    go_wp2_with (first | ((with_reducible apply bldr z3 0 []); decide; (intro j k _ _; rfl); rfl) | ((with_reducible apply str); rfl; rfl; exact Blk.top rfl (by simp)))
    apply ret_rowt Try.results19
    · rfl
    · rfl
    · rfl
    · exact (Blk.top rfl (by simp)).setRow_same _
    exact ⟨rfl, below_setRow ((((Below.refl _ _).alloc (Nat.le_refl _) _).alloc (by simp) _).alloc (by simp; omega) _) (by omega) _⟩
set_option maxRecDepth 100000 in
theorem change_ok (F : Nat → Nat → Nat) (D : Nat → Nat) (i : Nat) (hi : i ≤ 61) (hF : ∀ i k, F i k < 256) (hD : ∀ k, D k < 256) (w : World) :
    Calls Try.prog 19 #[.agg (secs 3 F), .int .i64 i, .agg (sec D)] w fun e w' => e = .returned (.tuple #[.agg (secs 3 (chg F i D)), .int .i64 0]) ∧ Below w.heap.size w w' := by
  have HF := hid hF
  have HD := hid hD
  clear hF hD
  go_enter Try.func19, Try.ntmps19
  go_wp2_with (first | ((with_reducible apply ldm (o := 128)); rfl; exact range_secs (i := 2) (((Blk.top rfl rfl).alloc _).alloc _) (by decide)) | ((with_reducible apply ld); rfl; exact (Blk.top rfl (by simp)).alloc _) | (with_reducible apply stx))
  generalize hw3 : World.alloc (World.alloc (World.alloc w _) _) _ = w3
  have b1 : Blk w3 w.heap.size 41 (secs 3 F) := by rw [← hw3]; exact ((Blk.top rfl rfl).alloc _).alloc _
  have b2 : Blk w3 (w.heap.size + 1) 25 (sec D) := by rw [← hw3]; exact (Blk.top rfl (by simp)).alloc _
  have b3 : Blk w3 (w.heap.size + 1 + 1) 41 (secs 3 z3) := by rw [← hw3]; exact Blk.top rfl (by simp)
  have hb : Below w.heap.size w w3 := by rw [← hw3]; exact ((((Below.refl _ _).alloc (Nat.le_refl _) _).alloc (by simp) _).alloc (by simp; omega) _)
  clear hw3
  refine (add_any _ _ (HF.out 2) HD.out _).mono ?_
  rintro e w4 ⟨rfl, hb'⟩
  go_wp2_with ((with_reducible apply stx); rfl; rfl; exact Blk.top zlit rfl)
  generalize hw5 : World.setRow (World.alloc w4 _) _ _ = w5
  have hs4 := hb'.size
  have c1 : Blk w5 w.heap.size 41 (secs 3 F) := by rw [← hw5]; exact ((b1.below hb' b1.lt).alloc _).setRow_other (by have := b1.lt; omega) _
  have c2 : Blk w5 (w.heap.size + 1) 25 (sec D) := by rw [← hw5]; exact ((b2.below hb' b2.lt).alloc _).setRow_other (by have := b2.lt; omega) _
  have c3 : Blk w5 (w.heap.size + 1 + 1) 41 (secs 3 z3) := by rw [← hw5]; exact ((b3.below hb' b3.lt).alloc _).setRow_other (by have := b3.lt; omega) _
  have c4 : Blk w5 w4.heap.size 25 (sec fun k => F 2 k ^^^ D k) := by rw [← hw5]; exact (Blk.top zlit rfl).setRow_same _
  have hb5 : Below w.heap.size w w5 := by rw [← hw5]; exact below_setRow ((hb.trans (hb'.mono hb.size)).alloc (Nat.le_trans hb.size hs4) _) (Nat.le_trans hb.size hs4) _
  clear hw5 b1 b2 b3 hb hb'
  have hDx : ∀ k, F 2 k ^^^ D k < 256 := fun k => GfM.xor_lt (HF.out 2 k) (HD.out k)
  have HX := hid hDx
  clear hDx
  go_wp2_with fail
  refine wp_region_tail (C := fun w' => Below w5.heap.size w5 w') 13 (by kernel_rfl) (by kernel_rfl) (by kernel_rfl) (Below.refl _ _).drew ?_
  simp only [List.take_succ_cons, List.take_zero, List.drop_succ_cons, List.drop_zero]
  apply wpK_val
  · rfl
  · intro w' hw'
    go_simp
    first | exact rfl | exact ⟨rfl, hw'⟩
  simp only [Act.put, List.setIfInBounds_toArray, List.set_cons_succ, List.set_cons_zero]
  apply kldm (o := 0)
  · rfl
  · rfl
  · exact fun w' hw' => range_secs (i := 0) (c1.below hw' c1.lt) (by decide)
  simp only [Act.put, List.setIfInBounds_toArray, List.set_cons_succ, List.set_cons_zero]
  apply kld
  · rfl
  · rfl
  · exact fun w' hw' => c4.below hw' c4.lt
  simp only [Act.put, List.setIfInBounds_toArray, List.set_cons_succ, List.set_cons_zero]
  apply wpK_val
  · rfl
  · intro w' hw'
    go_simp
    exact (add_any _ _ (HF.out 0) HX.out _).mono fun e w'' ⟨he, hb'⟩ => ⟨he, hw'.trans (hb'.mono hw'.size)⟩
  simp only [Act.put, List.setIfInBounds_toArray, List.set_cons_succ, List.set_cons_zero]
  apply wpK_val
  · rfl
  · intro w' hw'
    go_simp
    first | exact rfl | exact ⟨rfl, hw'⟩
  simp only [Act.put, List.setIfInBounds_toArray, List.set_cons_succ, List.set_cons_zero]
  apply kldm (o := 64)
  · rfl
  · rfl
  · exact fun w' hw' => range_secs (i := 1) (c1.below hw' c1.lt) (by decide)
  simp only [Act.put, List.setIfInBounds_toArray, List.set_cons_succ, List.set_cons_zero]
  apply wpK_val
  · rfl
  · intro w' hw'
    go_simp
    first | exact rfl | exact ⟨rfl, hw'⟩
  simp only [Act.put, List.setIfInBounds_toArray, List.set_cons_succ, List.set_cons_zero]
  apply wpK_val
  · rfl
  · intro w' hw'
    go_simp
    exact (pow_any _ _).mono fun e w'' ⟨he, hb'⟩ => ⟨he, by subst hb'; exact hw'⟩
  simp only [Act.put, List.setIfInBounds_toArray, List.set_cons_succ, List.set_cons_zero]
  apply kld
  · rfl
  · rfl
  · exact fun w' hw' => c4.below hw' c4.lt
  simp only [Act.put, List.setIfInBounds_toArray, List.set_cons_succ, List.set_cons_zero]
  apply wpK_val
  · rfl
  · intro w' hw'
    go_simp
    exact (scale_any _ _ (pwI_lt _) HX.out _).mono fun e w'' ⟨he, hb'⟩ => ⟨he, hw'.trans (hb'.mono hw'.size)⟩
  simp only [Act.put, List.setIfInBounds_toArray, List.set_cons_succ, List.set_cons_zero]
  apply wpK_val
  · rfl
  · intro w' hw'
    go_simp
    exact (add_any _ _ (HF.out 1) (fun _ => GfM.mul_lt (pwI_lt _)) _).mono fun e w'' ⟨he, hb'⟩ => ⟨he, hw'.trans (hb'.mono hw'.size)⟩
  simp only [Act.put, List.setIfInBounds_toArray, List.set_cons_succ, List.set_cons_zero]
  apply kld
  · rfl
  · rfl
  · exact fun w' hw' => c2.below hw' c2.lt
  simp only [Act.put, List.setIfInBounds_toArray, List.set_cons_succ, List.set_cons_zero]
  apply kbldr (chg F i D) 0 [fun k => F 0 k ^^^ (F 2 k ^^^ D k), fun k => F 1 k ^^^ GfM.mul (pwI i) (F 2 k ^^^ D k), D]
  · rfl
  · exact Nat.le_refl 3
  · intro j k hj _
    match j, hj with
    | 0, _ => rfl
    | 1, _ => show F 1 k ^^^ GfM.mul (GfM.pw i) (F 2 k ^^^ D k) = F 1 k ^^^ GfM.mul (pwI i) (F 2 k ^^^ D k); rw [pwI_nat]
    | 2, _ => rfl
  · rfl
  simp only [Act.put, List.setIfInBounds_toArray, List.set_cons_succ, List.set_cons_zero]
  refine wpK_nil fun w6 hw6 => ?_
  have d3 := c3.below hw6 c3.lt
  have hb6 := hb5.trans (hw6.mono hb5.size)
  clear c1 c2 c3 c4 hw6 hb5
  go_wp2_with ((with_reducible apply str); rfl; rfl; assumption)
  apply ret_rowt Try.results19
  · rfl
  · rfl
  · rfl
  · exact d3.setRow_same _
  exact ⟨rfl, below_setRow hb6 (by omega) _⟩
end Go.Proofs.Ytkdnkppkmjgihaa
