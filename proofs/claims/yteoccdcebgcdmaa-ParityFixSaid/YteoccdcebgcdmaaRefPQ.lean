/-
  The contracts of casemateref02.P, Q, Of, Same.
-/
import Derived.Test.YteoccdcebgcdmaaParWorks
import Derived.Test.YteoccdcebgcdmaaGfRef2
namespace Go.Proofs.Yteoccdcebgcdmaa
open Go.ChangeShapes Go.WideShapes Go.ChangeAt Go.RowKit
attribute [local go_sem] Gives eqg_sec
attribute [local go_sem high] run_eql_sec run_neq_sec
theorem rangeAt_cell {w : World} {b o k : Nat} {f : Nat → Nat} (h : w.rangeAt b o (sec f).toList) (hk : k < 64) : w.cell? ⟨b, o + k, none⟩ = some (.int .u8 (f k : Nat)) :=
  h k _ (by rw [Array.getElem?_toList]; exact get_sec hk)
set_option maxRecDepth 100000 in
theorem rP_any (A : Option Addr) (n cap k : Nat) (F : Nat → Nat → Nat) (hF : ∀ i k, F i k < 256) (hn : n ≤ 1000000) (hk : k < 64) (w : World) (hs : Secs w w.heap.size A n F) :
    Calls Try.prog 26 #[.slice A n cap, .int .i64 (-1), .int .i64 k] w fun e w' => e = .returned (.int .u8 (PP F n k : Nat)) ∧ w = w' := by
  have HF := hid hF
  have HS := hid hs
  clear hF hs
  go_enter Try.func26, Try.ntmps26
  go_wp2_with fail
  go_loop [7, 8] (fun c i => ∃ j : Nat, j ≤ n ∧ c = .int .u8 (PP F j k : Nat) ∧ i = .int .i64 j) (fun _ i => n - (intOf i).toNat)
  case atStart => exact ⟨0, by omega, rfl, rfl⟩
  case round =>
    obtain ⟨j, hj, rfl, rfl⟩ := hrel
    by_cases hlt : j < n
    · obtain ⟨b, o, rfl, hB, hr⟩ := HS.out (by omega)
      have c1 := rangeAt_cell (hr j hlt) hk
      clear hr
      have tne : ((j : Int) != -1) = true := by rw [bne_iff_ne]; omega
      have h1 := PP_lt HF.out j k
      have h2 := HF.out j k
      go_wp2_with fail
      go_round
      case rel => exact ⟨j + 1, by omega, by rw [u8_xor_nat _ _ h1 h2]; rfl, by go_num⟩
      case measure => simp [intOf]; omega
    · obtain rfl : j = n := by omega
      go_wp2_with fail
      go_ret
      exact ⟨rfl, rfl⟩
set_option maxRecDepth 100000 in
theorem rQ_any (A : Option Addr) (n cap k : Nat) (F : Nat → Nat → Nat) (hF : ∀ i k, F i k < 256) (hn : n ≤ 1000000) (hk : k < 64) (w : World) (hs : Secs w w.heap.size A n F) :
    Calls Try.prog 27 #[.slice A n cap, .int .i64 (-1), .int .i64 k] w fun e w' => e = .returned (.int .u8 (QQ F n k : Nat)) ∧ ∃ m, w' = w.drewN m := by
  have HF := hid hF
  have HS := hid hs
  clear hF hs
  go_enter Try.func27, Try.ntmps27
  go_wp2_with fail
  go_loopw [7, 8] (fun c i wr => ∃ j m : Nat, j ≤ n ∧ c = .int .u8 (QQ F j k : Nat) ∧ i = .int .i64 j ∧ wr = w.drewN m) (fun _ i _ => n - (intOf i).toNat)
  case atStart => exact ⟨0, 0, by omega, rfl, rfl, rfl⟩
  case round =>
    obtain ⟨j, m, hj, rfl, rfl, rfl⟩ := hrel
    by_cases hlt : j < n
    · obtain ⟨b, o, rfl, hB, hr⟩ := HS.out (by omega)
      have c1 := rangeAt_cell (hr j hlt) hk
      clear hr
      have tne : ((j : Int) != -1) = true := by rw [bne_iff_ne]; omega
      have h1 := QQ_lt (F := F) j k
      have h2 := HF.out j k
      have h3 := pwI_lt j
      have h4 := GfM.mul_lt (b := F j k) h3
      go_wp2_with fail
      go_quiet (first | (go_at_call 42; first | exact quiet_add_left (rpow_any _ _) | exact quiet_left (rpow_any _ _)) | (go_at_call 41; first | exact quiet_add_left (rmul_any _ _ (by assumption) (by assumption) _) | exact quiet_left (rmul_any _ _ (by assumption) (by assumption) _)))
      go_wp2_with fail
      exact ⟨⟨j + 1, m + nq, by omega, by rw [u8_xor_nat _ _ h1 h4, pwI_nat]; rfl, by go_num, rfl⟩, by simp [intOf]; omega⟩
    · obtain rfl : j = n := by omega
      go_wp2_with fail
      go_ret
      exact ⟨rfl, _, rfl⟩
/-- Behind k bytes. -/
def pk (k : Nat) (f : Nat → Nat) : Nat → Nat := upto k (fun _ => 0) f
set_option maxRecDepth 100000 in
theorem rof_some (A : Option Addr) (n cap : Nat) (F : Nat → Nat → Nat) (hF : ∀ i k, F i k < 256) (h0 : 0 < n) (hn : n ≤ 62) (w : World) (hs : Secs w w.heap.size A n F) :
    Calls Try.prog 12 #[.slice A n cap] w fun e w' => e = .returned (.tuple #[.agg (sec (PP F n)), .agg (sec (QQ F n)), .int .i64 0]) ∧ Below w.heap.size w w' := by
  have HF := hid hF
  have HS := hid hs
  clear hF hs
  have t0 : ((n : Int) == 0) = false := by rw [beq_eq_false_iff_ne]; omega
  go_enter Try.func12, Try.ntmps12
  go_wp2_with fail
  generalize hw3 : World.alloc (World.alloc (World.alloc (World.alloc w _) _) _) _ = w3
  have b1 : Blk w3 w.heap.size 25 (sec fun _ => 0) := by rw [← hw3]; exact (((Blk.top zlit rfl).alloc _).alloc _).alloc _
  have b2 : Blk w3 (w.heap.size + 1) 25 (sec fun _ => 0) := by rw [← hw3]; exact ((Blk.top zlit (by simp)).alloc _).alloc _
  have b3 : Blk w3 (w.heap.size + 1 + 1) 25 (sec fun _ => 0) := by rw [← hw3]; exact (Blk.top zlit (by simp)).alloc _
  have b4 : Blk w3 (w.heap.size + 1 + 1 + 1) 25 (sec fun _ => 0) := by rw [← hw3]; exact Blk.top zlit (by simp)
  have hb : Below w.heap.size w w3 := by rw [← hw3]; exact ((((Below.refl _ _).alloc (Nat.le_refl _) _).alloc (by simp) _).alloc (by simp; omega) _).alloc (by simp; omega) _
  clear hw3
  go_loopw [7] (fun i wr => ∃ k : Nat, k ≤ 64 ∧ i = .int .i64 k ∧ Blk wr w.heap.size 25 (sec fun _ => 0) ∧ Blk wr (w.heap.size + 1) 25 (sec fun _ => 0) ∧ Blk wr (w.heap.size + 1 + 1) 25 (sec (upto k (fun _ => 0) (PP F n))) ∧ Blk wr (w.heap.size + 1 + 1 + 1) 25 (sec (upto k (fun _ => 0) (QQ F n))) ∧ Below w.heap.size w wr) (fun i _ => 64 - (intOf i).toNat)
  case atStart => exact ⟨0, by omega, rfl, b1, b2, by rw [upto_zero]; exact b3, by rw [upto_zero]; exact b4, hb⟩
  case round =>
    obtain ⟨k, hk, rfl, b1, b2, b3, b4, hb⟩ := hrel
    by_cases hlt : k < 64
    · have hsr := ((HS.out.below hb (Nat.le_refl _)).more hb.size)
      have HSR := hid hsr
      clear hsr
      go_wp2_with fail
      refine (rP_any A n cap k F HF.out (by omega) hlt _ HSR.out).mono ?_
      rintro e w' ⟨rfl, rfl⟩
      have c1 : wr.cell? ⟨w.heap.size + 1 + 1, k, none⟩ = some (.int .u8 (0 : Nat)) := by rw [b3.cell, get_sec hlt, upto_at]
      have c2 := b3.frozen k
      go_wp2_with fail
      clear c1 c2
      generalize hw5 : World.setCell wr _ _ = w5
      have d1 : Blk w5 w.heap.size 25 (sec fun _ => 0) := by rw [← hw5]; exact b1.setCell_other (by simp; omega) _
      have d2 : Blk w5 (w.heap.size + 1) 25 (sec fun _ => 0) := by rw [← hw5]; exact b2.setCell_other (by simp) _
      have d3 : Blk w5 (w.heap.size + 1 + 1) 25 (sec (upto (k + 1) (fun _ => 0) (PP F n))) := by rw [← hw5]; exact upto_step (b3.setCell_same k _)
      have d4 : Blk w5 (w.heap.size + 1 + 1 + 1) 25 (sec (upto k (fun _ => 0) (QQ F n))) := by rw [← hw5]; exact b4.setCell_other (by simp) _
      have hd : Below w.heap.size w w5 := by rw [← hw5]; exact hb.setCell (by simp; omega) _
      have hsr : Secs w5 w5.heap.size A n F := (HS.out.below hd (Nat.le_refl _)).more hd.size
      have HSR5 := hid hsr
      clear hsr hw5 HSR b1 b2 b3 b4 hb
      refine (rQ_any A n cap k F HF.out (by omega) hlt _ HSR5.out).mono ?_
      rintro e w' ⟨rfl, m, rfl⟩
      have c1 : w5.cell? ⟨w.heap.size + 1 + 1 + 1, k, none⟩ = some (.int .u8 (0 : Nat)) := by rw [d4.cell, get_sec hlt, upto_at]
      have c2 := d4.frozen k
      go_wp2_with fail
      exact ⟨⟨k + 1, by omega, by go_num, (d1.drewN _).setCell_other (by simp; omega) _, (d2.drewN _).setCell_other (by simp; omega) _, (d3.drewN _).setCell_other (by simp) _, upto_step ((d4.drewN _).setCell_same k _), (below_drewN hd _).setCell (by simp; omega) _⟩, by simp [intOf]; omega⟩
    · rw [upto_all (by omega)] at b3 b4
      go_wp2_with fail
      refine wp_region_put (C := fun b w' => Blk w' w.heap.size 25 (sec (bif b then PP F n else fun _ => 0)) ∧ Blk w' (w.heap.size + 1) 25 (sec fun _ => 0) ∧ Blk w' (w.heap.size + 1 + 1) 25 (sec (PP F n)) ∧ Blk w' (w.heap.size + 1 + 1 + 1) 25 (sec (QQ F n)) ∧ Below w.heap.size w w') 2 3 (by omega) (by kernel_rfl) (by kernel_rfl) (by kernel_rfl) ⟨b1.drew, b2.drew, b3.drew, b4.drew, hb.drew⟩ ?_
      simp only [List.take_succ_cons, List.take_zero, List.drop_succ_cons, List.drop_zero]
      apply sld
      · decide
      · rfl
      · rfl
      · exact fun b w' hw' => hw'.2.2.1
      simp only [Act.put, List.setIfInBounds_toArray, List.set_cons_succ, List.set_cons_zero]
      apply sld
      · decide
      · rfl
      · rfl
      · exact fun b w' hw' => hw'.2.2.2.1
      simp only [Act.put, List.setIfInBounds_toArray, List.set_cons_succ, List.set_cons_zero]
      apply sst
      · rfl
      · rfl
      · rfl
      · rfl
      · exact fun w' hw' => ⟨_, hw'.1⟩
      · exact fun w' hw' => ⟨hw'.1.setRow_same _, hw'.2.1.setRow_other (by omega) _, hw'.2.2.1.setRow_other (by omega) _, hw'.2.2.2.1.setRow_other (by omega) _, below_setRow hw'.2.2.2.2 (Nat.le_refl _) _⟩
      refine wpS_nil fun w4 ⟨h1, h2, h3, h4, h5⟩ => ?_
      simp only [Act.put]
      go_wp2_with ((with_reducible apply stx); rfl; rfl; assumption)
      apply ret_sec2t Try.results12
      · rfl
      · rfl
      · rfl
      · rfl
      · exact h1.setRow_other (by omega) _
      · exact h2.setRow_same _
      exact ⟨rfl, below_setRow h5 (by omega) _⟩
set_option maxRecDepth 100000 in
theorem rof_none (A : Option Addr) (cap : Nat) (w : World) :
    Calls Try.prog 12 #[.slice A 0 cap] w fun e w' => e = .returned (.tuple #[.agg (sec fun _ => 0), .agg (sec fun _ => 0), .int .i64 2]) ∧ Below w.heap.size w w' := by
  go_enter Try.func12, Try.ntmps12
  go_wp2_with fail
  generalize hw3 : World.alloc (World.alloc (World.alloc (World.alloc w _) _) _) _ = w3
  have b1 : Blk w3 w.heap.size 25 (sec fun _ => 0) := by rw [← hw3]; exact (((Blk.top zlit rfl).alloc _).alloc _).alloc _
  have b2 : Blk w3 (w.heap.size + 1) 25 (sec fun _ => 0) := by rw [← hw3]; exact ((Blk.top zlit (by simp)).alloc _).alloc _
  have b3 : Blk w3 (w.heap.size + 1 + 1) 25 (sec fun _ => 0) := by rw [← hw3]; exact (Blk.top zlit (by simp)).alloc _
  have b4 : Blk w3 (w.heap.size + 1 + 1 + 1) 25 (sec fun _ => 0) := by rw [← hw3]; exact Blk.top zlit (by simp)
  have hb : Below w.heap.size w w3 := by rw [← hw3]; exact ((((Below.refl _ _).alloc (Nat.le_refl _) _).alloc (by simp) _).alloc (by simp; omega) _).alloc (by simp; omega) _
  clear hw3
  refine wp_region_tail (C := fun w' => Blk w' w.heap.size 25 (sec fun _ => 0) ∧ Blk w' (w.heap.size + 1) 25 (sec fun _ => 0) ∧ Blk w' (w.heap.size + 1 + 1) 25 (sec fun _ => 0) ∧ Blk w' (w.heap.size + 1 + 1 + 1) 25 (sec fun _ => 0) ∧ Below w.heap.size w w') 5 (by kernel_rfl) (by kernel_rfl) (by kernel_rfl) ⟨b1.drew, b2.drew, b3.drew, b4.drew, hb.drew⟩ ?_
  simp only [List.take_succ_cons, List.take_zero, List.drop_succ_cons, List.drop_zero]
  apply kld
  · rfl
  · rfl
  · exact fun w' hw' => hw'.2.2.1
  simp only [Act.put, List.setIfInBounds_toArray, List.set_cons_succ, List.set_cons_zero]
  apply kld
  · rfl
  · rfl
  · exact fun w' hw' => hw'.2.2.2.1
  simp only [Act.put, List.setIfInBounds_toArray, List.set_cons_succ, List.set_cons_zero]
  apply kst_id
  · rfl
  · rfl
  · rfl
  · exact fun w' hw' => hw'.1
  simp only [Act.put]
  apply kst_id
  · rfl
  · rfl
  · rfl
  · exact fun w' hw' => hw'.2.1
  simp only [Act.put]
  apply wpK_val
  · rfl
  · intro w' hw'
    go_simp
    first | exact rfl | exact ⟨rfl, hw'⟩
  simp only [Act.put, List.setIfInBounds_toArray, List.set_cons_succ, List.set_cons_zero]
  refine wpK_nil fun w4 ⟨h1, h2, h3, h4, h5⟩ => ?_
  go_wp2_with fail
  apply ret_sec2t Try.results12
  · rfl
  · rfl
  · rfl
  · rfl
  · exact h1
  · exact h2
  exact ⟨rfl, h5⟩
set_option maxRecDepth 100000 in
theorem rof_long (A : Option Addr) (n cap : Nat) (hn : 62 < n) (hm : n ≤ 1000000000000000) (w : World) :
    Calls Try.prog 12 #[.slice A n cap] w fun e w' => e = .returned (.tuple #[.agg (sec fun _ => 0), .agg (sec fun _ => 0), .int .i64 3]) ∧ Below w.heap.size w w' := by
  have t0 : ((n : Int) == 0) = false := by rw [beq_eq_false_iff_ne]; omega
  go_enter Try.func12, Try.ntmps12
  go_wp2_with fail
  generalize hw3 : World.alloc (World.alloc (World.alloc (World.alloc w _) _) _) _ = w3
  have b1 : Blk w3 w.heap.size 25 (sec fun _ => 0) := by rw [← hw3]; exact (((Blk.top zlit rfl).alloc _).alloc _).alloc _
  have b2 : Blk w3 (w.heap.size + 1) 25 (sec fun _ => 0) := by rw [← hw3]; exact ((Blk.top zlit (by simp)).alloc _).alloc _
  have b3 : Blk w3 (w.heap.size + 1 + 1) 25 (sec fun _ => 0) := by rw [← hw3]; exact (Blk.top zlit (by simp)).alloc _
  have b4 : Blk w3 (w.heap.size + 1 + 1 + 1) 25 (sec fun _ => 0) := by rw [← hw3]; exact Blk.top zlit (by simp)
  have hb : Below w.heap.size w w3 := by rw [← hw3]; exact ((((Below.refl _ _).alloc (Nat.le_refl _) _).alloc (by simp) _).alloc (by simp; omega) _).alloc (by simp; omega) _
  clear hw3
  refine wp_region_tail (C := fun w' => Blk w' w.heap.size 25 (sec fun _ => 0) ∧ Blk w' (w.heap.size + 1) 25 (sec fun _ => 0) ∧ Blk w' (w.heap.size + 1 + 1) 25 (sec fun _ => 0) ∧ Blk w' (w.heap.size + 1 + 1 + 1) 25 (sec fun _ => 0) ∧ Below w.heap.size w w') 5 (by kernel_rfl) (by kernel_rfl) (by kernel_rfl) ⟨b1.drew, b2.drew, b3.drew, b4.drew, hb.drew⟩ ?_
  simp only [List.take_succ_cons, List.take_zero, List.drop_succ_cons, List.drop_zero]
  apply kld
  · rfl
  · rfl
  · exact fun w' hw' => hw'.2.2.1
  simp only [Act.put, List.setIfInBounds_toArray, List.set_cons_succ, List.set_cons_zero]
  apply kld
  · rfl
  · rfl
  · exact fun w' hw' => hw'.2.2.2.1
  simp only [Act.put, List.setIfInBounds_toArray, List.set_cons_succ, List.set_cons_zero]
  apply kst_id
  · rfl
  · rfl
  · rfl
  · exact fun w' hw' => hw'.1
  simp only [Act.put]
  apply kst_id
  · rfl
  · rfl
  · rfl
  · exact fun w' hw' => hw'.2.1
  simp only [Act.put]
  apply wpK_val
  · rfl
  · intro w' hw'
    go_simp
    first | exact rfl | exact ⟨rfl, hw'⟩
  simp only [Act.put, List.setIfInBounds_toArray, List.set_cons_succ, List.set_cons_zero]
  refine wpK_nil fun w4 ⟨h1, h2, h3, h4, h5⟩ => ?_
  go_wp2_with fail
  apply ret_sec2t Try.results12
  · rfl
  · rfl
  · rfl
  · rfl
  · exact h1
  · exact h2
  exact ⟨rfl, h5⟩
/-- Are the first n of two lists alike? -/
def allS (n : Nat) (F G : Nat → Nat → Nat) : Bool := (List.range n).all fun i => eqS (F i) (G i)
theorem allS_iff {n : Nat} {F G : Nat → Nat → Nat} : allS n F G = true ↔ ∀ i, i < n → ∀ k, k < 64 → F i k = G i k := by
  unfold allS
  rw [List.all_eq_true]
  constructor
  · intro h i hi; exact eqS_iff.1 (h i (List.mem_range.2 hi))
  · intro h i hi; exact eqS_iff.2 (h i (List.mem_range.1 hi))
theorem allS_yes {n : Nat} {F G : Nat → Nat → Nat} (h : ∀ i, i < n → ∀ k, k < 64 → F i k = G i k) : allS n F G = true := allS_iff.2 h
theorem allS_no {n i : Nat} {F G : Nat → Nat → Nat} (hi : i < n) (h : eqS (F i) (G i) = false) : allS n F G = false := by
  cases e : allS n F G with
  | false => rfl
  | true =>
    have := eqS_iff.2 (allS_iff.1 e i hi)
    rw [h] at this
    cases this
set_option maxRecDepth 100000 in
theorem rsame_any (A B : Option Addr) (n c c' : Nat) (F G : Nat → Nat → Nat) (hn : n ≤ 1000000) (w : World) (hs : Secs w w.heap.size A n F) (ht : Secs w w.heap.size B n G) :
    Calls Try.prog 15 #[.slice A n c, .slice B n c'] w fun e w' => e = .returned (.bool (allS n F G)) ∧ ∃ m, w' = w.drewN m := by
  have HS := hid hs
  have HT := hid ht
  clear hs ht
  go_enter Try.func15, Try.ntmps15
  go_wp2_with fail
  go_loopw [5] (fun i wr => ∃ j m : Nat, j ≤ n ∧ i = .int .i64 j ∧ wr = w.drewN m ∧ Hid (∀ i, i < j → eqS (F i) (G i) = true)) (fun i _ => n - (intOf i).toNat)
  case atStart => exact ⟨0, 0, by omega, rfl, rfl, hid fun i hi => absurd hi (by omega)⟩
  case round =>
    obtain ⟨j, m, hj, rfl, rfl, H⟩ := hrel
    by_cases hlt : j < n
    · obtain ⟨b, o, rfl, hB, hr⟩ := HS.out (by omega)
      obtain ⟨b', o', rfl, hB', hr'⟩ := HT.out (by omega)
      have r1 := hr j hlt
      have r2 := hr' j hlt
      clear hr hr'
      go_wp2_with fail
      refine wp_region_tail (C := fun w' => ∃ k, w' = w.drewN k) 9 (by kernel_rfl) (by kernel_rfl) (by kernel_rfl) ⟨m + 1, rfl⟩ ?_
      simp only [List.take_succ_cons, List.take_zero, List.drop_succ_cons, List.drop_zero]
      apply wpK_val
      · rfl
      · intro w' hw'
        go_simp
        first | exact rfl | exact ⟨rfl, hw'⟩
      simp only [Act.put, List.setIfInBounds_toArray, List.set_cons_succ, List.set_cons_zero]
      apply wpK_val
      · rfl
      · intro w' hw'
        go_simp
        first | exact rfl | exact ⟨rfl, hw'⟩
      simp only [Act.put, List.setIfInBounds_toArray, List.set_cons_succ, List.set_cons_zero]
      apply wpK_val
      · rfl
      · intro w' hw'
        go_simp
        first | exact rfl | exact ⟨rfl, hw'⟩
      simp only [Act.put, List.setIfInBounds_toArray, List.set_cons_succ, List.set_cons_zero]
      apply kldm
      · rfl
      · rfl
      · exact fun w' hw' => by obtain ⟨k, rfl⟩ := hw'; exact r1
      simp only [Act.put, List.setIfInBounds_toArray, List.set_cons_succ, List.set_cons_zero]
      apply wpK_val
      · rfl
      · intro w' hw'
        go_simp
        first | exact rfl | exact ⟨rfl, hw'⟩
      simp only [Act.put, List.setIfInBounds_toArray, List.set_cons_succ, List.set_cons_zero]
      apply wpK_val
      · rfl
      · intro w' hw'
        go_simp
        first | exact rfl | exact ⟨rfl, hw'⟩
      simp only [Act.put, List.setIfInBounds_toArray, List.set_cons_succ, List.set_cons_zero]
      apply wpK_val
      · rfl
      · intro w' hw'
        go_simp
        first | exact rfl | exact ⟨rfl, hw'⟩
      simp only [Act.put, List.setIfInBounds_toArray, List.set_cons_succ, List.set_cons_zero]
      apply kldm
      · rfl
      · rfl
      · exact fun w' hw' => by obtain ⟨k, rfl⟩ := hw'; exact r2
      simp only [Act.put, List.setIfInBounds_toArray, List.set_cons_succ, List.set_cons_zero]
      apply wpK_val
      · rfl
      · intro w' hw'
        go_simp
        first | exact rfl | exact ⟨rfl, hw'⟩
      simp only [Act.put, List.setIfInBounds_toArray, List.set_cons_succ, List.set_cons_zero]
      refine wpK_nil fun w4 hw4 => ?_
      obtain ⟨k, rfl⟩ := hw4
      cases he : eqS (F j) (G j) with
      | true =>
        go_wp2_with fail
        exact ⟨⟨j + 1, k, by omega, by go_num, rfl, hid fun i hi => by
          rcases Nat.lt_or_ge i j with h | h
          · exact H.out i h
          · obtain rfl : i = j := by omega
            exact he⟩, by simp [intOf]; omega⟩
      | false =>
        have HN := hid (allS_no hlt he)
        go_wp2_with fail
        go_ret
        exact ⟨by rw [HN.out]; rfl, _, rfl⟩
    · obtain rfl : j = n := by omega
      have HN := hid (allS_yes fun i hi => eqS_iff.1 (H.out i hi))
      clear H
      go_wp2_with fail
      go_ret
      exact ⟨by rw [HN.out]; rfl, _, rfl⟩
end Go.Proofs.Yteoccdcebgcdmaa
