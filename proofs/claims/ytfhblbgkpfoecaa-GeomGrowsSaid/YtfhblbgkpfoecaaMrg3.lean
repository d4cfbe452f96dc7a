/-
  GeomGrows: with a row more, or a member more, no count is lesser.
  GeomKnown: the chapter's examples.
-/
import Derived.Test.YtfhblbgkpfoecaaMrg2
set_option linter.unusedVariables false
set_option linter.unusedSimpArgs false
set_option maxRecDepth 100000
namespace Go.Proofs.Ytfhblbgkpfoecaa
open Go.ChangeShapes Go.WideShapes Go.ChangeAt Go.RowKit
attribute [local go_sem] Gives
namespace GeM
/-- A row more than m members and r rows; and a member more. -/
def rowP (m r : Nat) : Prop := lv m r < lv m (r + 1) ∧ nd m r ≤ nd m (r + 1) ∧ ht m r ≤ ht m (r + 1) ∧ cp m r ≤ cp m (r + 1) ∧ hf m r ≤ hf m (r + 1) ∧ sec m r ≤ sec m (r + 1) ∧ lo m (r + 1) + 2 = lo m r + m ∧ sec m (r + 1) ≠ sec m r
def memP (m r : Nat) : Prop := lv m r < lv (m + 1) r ∧ nd m r ≤ nd (m + 1) r ∧ ht m r ≤ ht (m + 1) r ∧ cp m r ≤ cp (m + 1) r ∧ hf m r ≤ hf (m + 1) r ∧ sec m r ≤ sec (m + 1) r ∧ lo (m + 1) r = lo m r + r
instance (m r : Nat) : Decidable (rowP m r) := by unfold rowP; infer_instance
instance (m r : Nat) : Decidable (memP m r) := by unfold memP; infer_instance
theorem rows_dec : ((List.range 65).all fun m => (List.range 64).all fun r => decide (m < 4) || decide (r < 1) || decide (rowP m r)) = true := by decide +kernel
theorem mems_dec : ((List.range 64).all fun m => (List.range 65).all fun r => decide (m < 4) || decide (r < 1) || decide (memP m r)) = true := by decide +kernel
theorem rows_all (m r : Nat) (h1 : r < 64) (h2 : m < 65) (h3 : 4 ≤ m) (h4 : 1 ≤ r) : rowP m r := by
  have := List.all_eq_true.1 (List.all_eq_true.1 rows_dec m (List.mem_range.2 h2)) r (List.mem_range.2 h1)
  simp only [Bool.or_eq_true, decide_eq_true_eq] at this
  rcases this with (h | h) | h
  · omega
  · omega
  · exact h
theorem mems_all (m r : Nat) (h1 : m < 64) (h2 : r < 65) (h3 : 4 ≤ m) (h4 : 1 ≤ r) : memP m r := by
  have := List.all_eq_true.1 (List.all_eq_true.1 mems_dec m (List.mem_range.2 h1)) r (List.mem_range.2 h2)
  simp only [Bool.or_eq_true, decide_eq_true_eq] at this
  rcases this with (h | h) | h
  · omega
  · omega
  · exact h
set_option maxHeartbeats 8000000 in
theorem grows_law (a b : Int) (W : World) : Calls Try.prog 8 #[gv a b] W fun e w' => e = .returned (.bool true) ∧ Below W.heap.size W w' := by
  by_cases hg : Good a b
  · obtain ⟨m, r, rfl, rfl, k1, k2, k3, k4⟩ := good_nat hg
    unfold gv
    go_enter Try.func8, Try.ntmps8
    go_wp2_with fail
    refine (check_c _ _ _).mono ?_
    rw [cg_good hg]
    rintro e w1 ⟨rfl, h1⟩
    have A1 := hid ((At.new W m r).on h1)
    clear h1
    go_wp2_with fail
    go_loopw [3] (fun u wr => ∃ k : Nat, u = .int .i64 k ∧ k ≤ 2 ∧ Hid (At W W.heap.size m r wr)) (fun u _ => 2 - (intOf u).toNat)
    case atStart => exact ⟨0, rfl, by omega, A1⟩
    case round =>
      obtain ⟨k, rfl, hk, HA⟩ := hrel
      clear A1
      have hk' : k = 0 ∨ k = 1 ∨ k = 2 := by omega
      rcases hk' with rfl | rfl | rfl
      · have q0 := HA.out.c0
        have q1 := HA.out.c1
        go_upto_region 10 with fail
        generalize hw2 : World.alloc wr _ = w2
        obtain ⟨gh, hgh⟩ : ∃ n, n = wr.heap.size := ⟨_, rfl⟩
        have A2 := hid (show At W W.heap.size m r w2 by rw [← hw2]; exact HA.out.on (below_al _))
        have N2 := hid (show At w2 gh (m : Int) ((r : Int) + 1) w2 by rw [← hw2, hgh]; exact ⟨Blk.new _ _ _, Below.refl _ _⟩)
        rw [← hgh]
        clear hw2 hgh q0 q1 HA
        have q0 := N2.out.c0
        have q1 := N2.out.c1
        go_wp2_with fail
        by_cases hg2 : Good (m : Int) ((r : Int) + 1)
        · have hgr := rows_all m r (by have := hg2.2.2.2; omega) (by omega) (by omega) (by omega)
          have F0 := hid (show decide (lv m (r + 1) ≤ lv m r) = false from decide_eq_false (by have := hgr.1; omega))
          have F1 := hid (show decide (nd m (r + 1) < nd m r) = false from decide_eq_false (by have := hgr.2.1; omega))
          have F2 := hid (show decide (ht m (r + 1) < ht m r) = false from decide_eq_false (by have := hgr.2.2.1; omega))
          have F3 := hid (show decide (cp m (r + 1) < cp m r) = false from decide_eq_false (by have := hgr.2.2.2.1; omega))
          have F4 := hid (show decide (hf m (r + 1) < hf m r) = false from decide_eq_false (by have := hgr.2.2.2.2.1; omega))
          have F5 := hid (show decide (sec m (r + 1) < sec m r) = false from decide_eq_false (by have := hgr.2.2.2.2.2.1; omega))
          have LB := hid (lo_bd hg)
          have LO := hid (show ((lo m (r + 1) : Int) != (lo m r : Int) + m - 2) = false by rw [bne_eq_false_iff_eq]; have := hgr.2.2.2.2.2.2.1; omega)
          have SE := hid (show ((sec m (r + 1) : Int) == (sec m r : Int)) = false by rw [beq_eq_false_iff_ne]; have := hgr.2.2.2.2.2.2.2; omega)
          clear hgr q0 q1
          refine (check_c _ _ _).mono ?_
          rw [cg_good hg2]
          rintro e w3 ⟨rfl, h3⟩
          have A3 := hid (A2.out.on h3)
          have N3 := hid (N2.out.on h3)
          clear h3 A2 N2
          have HL2 : ∀ f : Nat → Nat → Nat, L f (m : Int) ((r : Int) + 1) = f m (r + 1) := fun f => L_good (m := m) (r := (r + 1)) hg2
          go_wp2_with fail
          refine wp_region_tail (C := fun w' => At W W.heap.size m r w' ∧ At w2 gh (m : Int) ((r : Int) + 1) w') 39 (by kernel_rfl) (by kernel_rfl) (by kernel_rfl) ⟨A3.out.drew, N3.out.drew⟩ ?_
          simp only [List.take_succ_cons, List.take_zero, List.drop_succ_cons, List.drop_zero]
          apply kldR (tGe _ _)
          · rfl
          · rfl
          · exact fun w' hw' => hw'.2.blk.whole
          simp only [Act.put, List.setIfInBounds_toArray, List.set_cons_succ, List.set_cons_zero]
          apply wpK_val
          · rfl
          · intro w' hw'
            go_simp
            exact (leaves_any _ _ w').mono fun e w5 h => ⟨h.1, hw'.1.on h.2, hw'.2.on h.2⟩
          simp only [Act.put, List.setIfInBounds_toArray, List.set_cons_succ, List.set_cons_zero]
          rw [HL2]
          apply kldR (tGe _ _)
          · rfl
          · rfl
          · exact fun w' hw' => hw'.1.blk.whole
          simp only [Act.put, List.setIfInBounds_toArray, List.set_cons_succ, List.set_cons_zero]
          apply wpK_val
          · rfl
          · intro w' hw'
            go_simp
            exact (leaves_any _ _ w').mono fun e w5 h => ⟨h.1, hw'.1.on h.2, hw'.2.on h.2⟩
          simp only [Act.put, List.setIfInBounds_toArray, List.set_cons_succ, List.set_cons_zero]
          rw [L_good hg]
          apply wpK_val
          · rfl
          · intro w' hw'
            have h1 : decide (lv m (r + 1) ≤ lv m r) = false := F0.out
            go_simp
            first | exact rfl | exact ⟨rfl, hw'⟩
          simp only [Act.put, List.setIfInBounds_toArray, List.set_cons_succ, List.set_cons_zero]
          apply wpK_val
          · rfl
          · intro w' hw'
            go_simp
            first | exact rfl | exact ⟨rfl, hw'⟩
          simp only [Act.put, List.setIfInBounds_toArray, List.set_cons_succ, List.set_cons_zero]
          apply kldR (tGe _ _)
          · rfl
          · rfl
          · exact fun w' hw' => hw'.2.blk.whole
          simp only [Act.put, List.setIfInBounds_toArray, List.set_cons_succ, List.set_cons_zero]
          apply wpK_val
          · rfl
          · intro w' hw'
            go_simp
            exact (nodes_any _ _ w').mono fun e w5 h => ⟨h.1, hw'.1.on h.2, hw'.2.on h.2⟩
          simp only [Act.put, List.setIfInBounds_toArray, List.set_cons_succ, List.set_cons_zero]
          rw [HL2]
          apply kldR (tGe _ _)
          · rfl
          · rfl
          · exact fun w' hw' => hw'.1.blk.whole
          simp only [Act.put, List.setIfInBounds_toArray, List.set_cons_succ, List.set_cons_zero]
          apply wpK_val
          · rfl
          · intro w' hw'
            go_simp
            exact (nodes_any _ _ w').mono fun e w5 h => ⟨h.1, hw'.1.on h.2, hw'.2.on h.2⟩
          simp only [Act.put, List.setIfInBounds_toArray, List.set_cons_succ, List.set_cons_zero]
          rw [L_good hg]
          apply wpK_val
          · rfl
          · intro w' hw'
            have h1 : decide (nd m (r + 1) < nd m r) = false := F1.out
            go_simp
            first | exact rfl | exact ⟨rfl, hw'⟩
          simp only [Act.put, List.setIfInBounds_toArray, List.set_cons_succ, List.set_cons_zero]
          apply wpK_val
          · rfl
          · intro w' hw'
            go_simp
            first | exact rfl | exact ⟨rfl, hw'⟩
          simp only [Act.put, List.setIfInBounds_toArray, List.set_cons_succ, List.set_cons_zero]
          apply wpK_val
          · rfl
          · intro w' hw'
            go_simp
            first | exact rfl | exact ⟨rfl, hw'⟩
          simp only [Act.put, List.setIfInBounds_toArray, List.set_cons_succ, List.set_cons_zero]
          apply kldR (tGe _ _)
          · rfl
          · rfl
          · exact fun w' hw' => hw'.2.blk.whole
          simp only [Act.put, List.setIfInBounds_toArray, List.set_cons_succ, List.set_cons_zero]
          apply wpK_val
          · rfl
          · intro w' hw'
            go_simp
            exact (height_any _ _ w').mono fun e w5 h => ⟨h.1, hw'.1.on h.2, hw'.2.on h.2⟩
          simp only [Act.put, List.setIfInBounds_toArray, List.set_cons_succ, List.set_cons_zero]
          rw [HL2]
          apply kldR (tGe _ _)
          · rfl
          · rfl
          · exact fun w' hw' => hw'.1.blk.whole
          simp only [Act.put, List.setIfInBounds_toArray, List.set_cons_succ, List.set_cons_zero]
          apply wpK_val
          · rfl
          · intro w' hw'
            go_simp
            exact (height_any _ _ w').mono fun e w5 h => ⟨h.1, hw'.1.on h.2, hw'.2.on h.2⟩
          simp only [Act.put, List.setIfInBounds_toArray, List.set_cons_succ, List.set_cons_zero]
          rw [L_good hg]
          apply wpK_val
          · rfl
          · intro w' hw'
            have h1 : decide (ht m (r + 1) < ht m r) = false := F2.out
            go_simp
            first | exact rfl | exact ⟨rfl, hw'⟩
          simp only [Act.put, List.setIfInBounds_toArray, List.set_cons_succ, List.set_cons_zero]
          apply wpK_val
          · rfl
          · intro w' hw'
            go_simp
            first | exact rfl | exact ⟨rfl, hw'⟩
          simp only [Act.put, List.setIfInBounds_toArray, List.set_cons_succ, List.set_cons_zero]
          apply wpK_val
          · rfl
          · intro w' hw'
            go_simp
            first | exact rfl | exact ⟨rfl, hw'⟩
          simp only [Act.put, List.setIfInBounds_toArray, List.set_cons_succ, List.set_cons_zero]
          apply kldR (tGe _ _)
          · rfl
          · rfl
          · exact fun w' hw' => hw'.2.blk.whole
          simp only [Act.put, List.setIfInBounds_toArray, List.set_cons_succ, List.set_cons_zero]
          apply wpK_val
          · rfl
          · intro w' hw'
            go_simp
            exact (capacity_any _ _ w').mono fun e w5 h => ⟨h.1, hw'.1.on h.2, hw'.2.on h.2⟩
          simp only [Act.put, List.setIfInBounds_toArray, List.set_cons_succ, List.set_cons_zero]
          rw [HL2]
          apply kldR (tGe _ _)
          · rfl
          · rfl
          · exact fun w' hw' => hw'.1.blk.whole
          simp only [Act.put, List.setIfInBounds_toArray, List.set_cons_succ, List.set_cons_zero]
          apply wpK_val
          · rfl
          · intro w' hw'
            go_simp
            exact (capacity_any _ _ w').mono fun e w5 h => ⟨h.1, hw'.1.on h.2, hw'.2.on h.2⟩
          simp only [Act.put, List.setIfInBounds_toArray, List.set_cons_succ, List.set_cons_zero]
          rw [L_good hg]
          apply wpK_val
          · rfl
          · intro w' hw'
            have h1 : decide (cp m (r + 1) < cp m r) = false := F3.out
            go_simp
            first | exact rfl | exact ⟨rfl, hw'⟩
          simp only [Act.put, List.setIfInBounds_toArray, List.set_cons_succ, List.set_cons_zero]
          apply wpK_val
          · rfl
          · intro w' hw'
            go_simp
            first | exact rfl | exact ⟨rfl, hw'⟩
          simp only [Act.put, List.setIfInBounds_toArray, List.set_cons_succ, List.set_cons_zero]
          apply wpK_val
          · rfl
          · intro w' hw'
            go_simp
            first | exact rfl | exact ⟨rfl, hw'⟩
          simp only [Act.put, List.setIfInBounds_toArray, List.set_cons_succ, List.set_cons_zero]
          apply kldR (tGe _ _)
          · rfl
          · rfl
          · exact fun w' hw' => hw'.2.blk.whole
          simp only [Act.put, List.setIfInBounds_toArray, List.set_cons_succ, List.set_cons_zero]
          apply wpK_val
          · rfl
          · intro w' hw'
            go_simp
            exact (half_any _ _ w').mono fun e w5 h => ⟨h.1, hw'.1.on h.2, hw'.2.on h.2⟩
          simp only [Act.put, List.setIfInBounds_toArray, List.set_cons_succ, List.set_cons_zero]
          rw [HL2]
          apply kldR (tGe _ _)
          · rfl
          · rfl
          · exact fun w' hw' => hw'.1.blk.whole
          simp only [Act.put, List.setIfInBounds_toArray, List.set_cons_succ, List.set_cons_zero]
          apply wpK_val
          · rfl
          · intro w' hw'
            go_simp
            exact (half_any _ _ w').mono fun e w5 h => ⟨h.1, hw'.1.on h.2, hw'.2.on h.2⟩
          simp only [Act.put, List.setIfInBounds_toArray, List.set_cons_succ, List.set_cons_zero]
          rw [L_good hg]
          apply wpK_val
          · rfl
          · intro w' hw'
            have h1 : decide (hf m (r + 1) < hf m r) = false := F4.out
            go_simp
            first | exact rfl | exact ⟨rfl, hw'⟩
          simp only [Act.put, List.setIfInBounds_toArray, List.set_cons_succ, List.set_cons_zero]
          apply wpK_val
          · rfl
          · intro w' hw'
            go_simp
            first | exact rfl | exact ⟨rfl, hw'⟩
          simp only [Act.put, List.setIfInBounds_toArray, List.set_cons_succ, List.set_cons_zero]
          apply wpK_val
          · rfl
          · intro w' hw'
            go_simp
            first | exact rfl | exact ⟨rfl, hw'⟩
          simp only [Act.put, List.setIfInBounds_toArray, List.set_cons_succ, List.set_cons_zero]
          apply kldR (tGe _ _)
          · rfl
          · rfl
          · exact fun w' hw' => hw'.2.blk.whole
          simp only [Act.put, List.setIfInBounds_toArray, List.set_cons_succ, List.set_cons_zero]
          apply wpK_val
          · rfl
          · intro w' hw'
            go_simp
            exact (sectors_any _ _ w').mono fun e w5 h => ⟨h.1, hw'.1.on h.2, hw'.2.on h.2⟩
          simp only [Act.put, List.setIfInBounds_toArray, List.set_cons_succ, List.set_cons_zero]
          rw [HL2]
          apply kldR (tGe _ _)
          · rfl
          · rfl
          · exact fun w' hw' => hw'.1.blk.whole
          simp only [Act.put, List.setIfInBounds_toArray, List.set_cons_succ, List.set_cons_zero]
          apply wpK_val
          · rfl
          · intro w' hw'
            go_simp
            exact (sectors_any _ _ w').mono fun e w5 h => ⟨h.1, hw'.1.on h.2, hw'.2.on h.2⟩
          simp only [Act.put, List.setIfInBounds_toArray, List.set_cons_succ, List.set_cons_zero]
          rw [L_good hg]
          apply wpK_val
          · rfl
          · intro w' hw'
            have h1 : decide (sec m (r + 1) < sec m r) = false := F5.out
            go_simp
            first | exact rfl | exact ⟨rfl, hw'⟩
          simp only [Act.put, List.setIfInBounds_toArray, List.set_cons_succ, List.set_cons_zero]
          refine wpK_nil fun w4 hw4 => ?_
          have A4 := hid hw4
          clear hw4 A3 N3
          go_wp2_with fail
          refine wp_region_tail (C := fun w' => At W W.heap.size m r w' ∧ At w2 gh (m : Int) ((r : Int) + 1) w') 33 (by kernel_rfl) (by kernel_rfl) (by kernel_rfl) ⟨A4.out.1.drew, A4.out.2.drew⟩ ?_
          simp only [List.take_succ_cons, List.take_zero, List.drop_succ_cons, List.drop_zero]
          apply wpK_val
          · rfl
          · intro w' hw'
            go_simp
            first | exact rfl | exact ⟨rfl, hw'⟩
          simp only [Act.put, List.setIfInBounds_toArray, List.set_cons_succ, List.set_cons_zero]
          apply wpK_val
          · rfl
          · intro w' hw'
            go_simp
            first | exact rfl | exact ⟨rfl, hw'⟩
          simp only [Act.put, List.setIfInBounds_toArray, List.set_cons_succ, List.set_cons_zero]
          apply wpK_val
          · rfl
          · intro w' hw'
            go_simp
            first | exact rfl | exact ⟨rfl, hw'⟩
          simp only [Act.put, List.setIfInBounds_toArray, List.set_cons_succ, List.set_cons_zero]
          apply kldR (tGe _ _)
          · rfl
          · rfl
          · exact fun w' hw' => hw'.2.blk.whole
          simp only [Act.put, List.setIfInBounds_toArray, List.set_cons_succ, List.set_cons_zero]
          apply wpK_val
          · rfl
          · intro w' hw'
            go_simp
            exact (logical_any _ _ w').mono fun e w5 h => ⟨h.1, hw'.1.on h.2, hw'.2.on h.2⟩
          simp only [Act.put, List.setIfInBounds_toArray, List.set_cons_succ, List.set_cons_zero]
          rw [HL2]
          apply kldR (tGe _ _)
          · rfl
          · rfl
          · exact fun w' hw' => hw'.1.blk.whole
          simp only [Act.put, List.setIfInBounds_toArray, List.set_cons_succ, List.set_cons_zero]
          apply wpK_val
          · rfl
          · intro w' hw'
            go_simp
            exact (logical_any _ _ w').mono fun e w5 h => ⟨h.1, hw'.1.on h.2, hw'.2.on h.2⟩
          simp only [Act.put, List.setIfInBounds_toArray, List.set_cons_succ, List.set_cons_zero]
          rw [L_good hg]
          apply wpK_val
          · rfl
          · intro w' hw'
            go_simp
            first | exact rfl | exact ⟨rfl, hw'⟩
          simp only [Act.put, List.setIfInBounds_toArray, List.set_cons_succ, List.set_cons_zero]
          apply wpK_val
          · rfl
          · intro w' hw'
            have hcell := hw'.1.c0
            go_simp
            first | exact rfl | exact ⟨rfl, hw'⟩
          simp only [Act.put, List.setIfInBounds_toArray, List.set_cons_succ, List.set_cons_zero]
          apply wpK_val
          · rfl
          · intro w' hw'
            have h1 : IntKind.i64.wrap ((lo m r : Int) + m) = (lo m r : Int) + m := IntWalk.i64_in _ (by have := LB.out; omega)
            go_simp
            first | exact rfl | exact ⟨rfl, hw'⟩
          simp only [Act.put, List.setIfInBounds_toArray, List.set_cons_succ, List.set_cons_zero]
          apply wpK_val
          · rfl
          · intro w' hw'
            have h1 : IntKind.i64.wrap ((lo m r : Int) + m - 2) = (lo m r : Int) + m - 2 := IntWalk.i64_in _ (by have := LB.out; omega)
            go_simp
            first | exact rfl | exact ⟨rfl, hw'⟩
          simp only [Act.put, List.setIfInBounds_toArray, List.set_cons_succ, List.set_cons_zero]
          apply wpK_val
          · rfl
          · intro w' hw'
            have h1 : ((lo m (r + 1) : Int) != (lo m r : Int) + m - 2) = false := LO.out
            go_simp
            first | exact rfl | exact ⟨rfl, hw'⟩
          simp only [Act.put, List.setIfInBounds_toArray, List.set_cons_succ, List.set_cons_zero]
          apply wpK_val
          · rfl
          · intro w' hw'
            go_simp
            first | exact rfl | exact ⟨rfl, hw'⟩
          simp only [Act.put, List.setIfInBounds_toArray, List.set_cons_succ, List.set_cons_zero]
          apply kldR (tGe _ _)
          · rfl
          · rfl
          · exact fun w' hw' => hw'.2.blk.whole
          simp only [Act.put, List.setIfInBounds_toArray, List.set_cons_succ, List.set_cons_zero]
          apply wpK_val
          · rfl
          · intro w' hw'
            go_simp
            exact (sectors_any _ _ w').mono fun e w5 h => ⟨h.1, hw'.1.on h.2, hw'.2.on h.2⟩
          simp only [Act.put, List.setIfInBounds_toArray, List.set_cons_succ, List.set_cons_zero]
          rw [HL2]
          apply kldR (tGe _ _)
          · rfl
          · rfl
          · exact fun w' hw' => hw'.1.blk.whole
          simp only [Act.put, List.setIfInBounds_toArray, List.set_cons_succ, List.set_cons_zero]
          apply wpK_val
          · rfl
          · intro w' hw'
            go_simp
            exact (sectors_any _ _ w').mono fun e w5 h => ⟨h.1, hw'.1.on h.2, hw'.2.on h.2⟩
          simp only [Act.put, List.setIfInBounds_toArray, List.set_cons_succ, List.set_cons_zero]
          rw [L_good hg]
          apply wpK_val
          · rfl
          · intro w' hw'
            have h1 : ((sec m (r + 1) : Int) == (sec m r : Int)) = false := SE.out
            go_simp
            first | exact rfl | exact ⟨rfl, hw'⟩
          simp only [Act.put, List.setIfInBounds_toArray, List.set_cons_succ, List.set_cons_zero]
          apply wpK_val
          · rfl
          · intro w' hw'
            go_simp
            first | exact rfl | exact ⟨rfl, hw'⟩
          simp only [Act.put, List.setIfInBounds_toArray, List.set_cons_succ, List.set_cons_zero]
          apply wpK_val
          · rfl
          · intro w' hw'
            go_simp
            first | exact rfl | exact ⟨rfl, hw'⟩
          simp only [Act.put, List.setIfInBounds_toArray, List.set_cons_succ, List.set_cons_zero]
          apply wpK_val
          · rfl
          · intro w' hw'
            go_simp
            first | exact rfl | exact ⟨rfl, hw'⟩
          simp only [Act.put, List.setIfInBounds_toArray, List.set_cons_succ, List.set_cons_zero]
          apply wpK_val
          · rfl
          · intro w' hw'
            go_simp
            first | exact rfl | exact ⟨rfl, hw'⟩
          simp only [Act.put, List.setIfInBounds_toArray, List.set_cons_succ, List.set_cons_zero]
          apply wpK_val
          · rfl
          · intro w' hw'
            go_simp
            first | exact rfl | exact ⟨rfl, hw'⟩
          simp only [Act.put, List.setIfInBounds_toArray, List.set_cons_succ, List.set_cons_zero]
          apply wpK_val
          · rfl
          · intro w' hw'
            go_simp
            first | exact rfl | exact ⟨rfl, hw'⟩
          simp only [Act.put, List.setIfInBounds_toArray, List.set_cons_succ, List.set_cons_zero]
          apply wpK_not
          · rfl
          simp only [Act.put, List.setIfInBounds_toArray, List.set_cons_succ, List.set_cons_zero]
          apply wpK_not
          · rfl
          simp only [Act.put, List.setIfInBounds_toArray, List.set_cons_succ, List.set_cons_zero]
          apply wpK_not
          · rfl
          simp only [Act.put, List.setIfInBounds_toArray, List.set_cons_succ, List.set_cons_zero]
          apply wpK_not
          · rfl
          simp only [Act.put, List.setIfInBounds_toArray, List.set_cons_succ, List.set_cons_zero]
          apply wpK_not
          · rfl
          simp only [Act.put, List.setIfInBounds_toArray, List.set_cons_succ, List.set_cons_zero]
          apply wpK_not
          · rfl
          simp only [Act.put, List.setIfInBounds_toArray, List.set_cons_succ, List.set_cons_zero]
          apply wpK_not
          · rfl
          simp only [Act.put, List.setIfInBounds_toArray, List.set_cons_succ, List.set_cons_zero]
          apply wpK_not
          · rfl
          simp only [Act.put, List.setIfInBounds_toArray, List.set_cons_succ, List.set_cons_zero]
          apply wpK_val
          · rfl
          · intro w' hw'
            go_simp
            first | exact rfl | exact ⟨rfl, hw'⟩
          simp only [Act.put, List.setIfInBounds_toArray, List.set_cons_succ, List.set_cons_zero]
          refine wpK_nil fun w5 hw5 => ?_
          have A5 := hid hw5.1
          clear hw5 A4
          go_wp2_with fail
          go_roundw
          case rel => exact ⟨0 + 1, by go_num, by omega, A5⟩
          case measure => simp [intOf]
        · refine (check_c _ _ _).mono ?_
          rw [cg_bad hg2]
          rintro e w3 ⟨rfl, h3⟩
          have A3 := hid (A2.out.on h3)
          clear h3 A2 N2
          go_wp2_with fail
          go_roundw
          case rel => exact ⟨0 + 1, by go_num, by omega, A3⟩
          case measure => simp [intOf]
      · have q0 := HA.out.c0
        have q1 := HA.out.c1
        go_upto_region 10 with fail
        generalize hw2 : World.alloc wr _ = w2
        obtain ⟨gh, hgh⟩ : ∃ n, n = wr.heap.size := ⟨_, rfl⟩
        have A2 := hid (show At W W.heap.size m r w2 by rw [← hw2]; exact HA.out.on (below_al _))
        have N2 := hid (show At w2 gh ((m : Int) + 1) (r : Int) w2 by rw [← hw2, hgh]; exact ⟨Blk.new _ _ _, Below.refl _ _⟩)
        rw [← hgh]
        clear hw2 hgh q0 q1 HA
        have q0 := N2.out.c0
        have q1 := N2.out.c1
        go_wp2_with fail
        by_cases hg2 : Good ((m : Int) + 1) (r : Int)
        · have hgr := mems_all m r (by have := hg2.2.1; omega) (by omega) (by omega) (by omega)
          have F0 := hid (show decide (lv (m + 1) r ≤ lv m r) = false from decide_eq_false (by have := hgr.1; omega))
          have F1 := hid (show decide (nd (m + 1) r < nd m r) = false from decide_eq_false (by have := hgr.2.1; omega))
          have F2 := hid (show decide (ht (m + 1) r < ht m r) = false from decide_eq_false (by have := hgr.2.2.1; omega))
          have F3 := hid (show decide (cp (m + 1) r < cp m r) = false from decide_eq_false (by have := hgr.2.2.2.1; omega))
          have F4 := hid (show decide (hf (m + 1) r < hf m r) = false from decide_eq_false (by have := hgr.2.2.2.2.1; omega))
          have F5 := hid (show decide (sec (m + 1) r < sec m r) = false from decide_eq_false (by have := hgr.2.2.2.2.2.1; omega))
          have LB := hid (lo_bd hg)
          have LO := hid (show ((lo (m + 1) r : Int) != (lo m r : Int) + r) = false by rw [bne_eq_false_iff_eq]; have := hgr.2.2.2.2.2.2; omega)
          clear hgr q0 q1
          refine (check_c _ _ _).mono ?_
          rw [cg_good hg2]
          rintro e w3 ⟨rfl, h3⟩
          have A3 := hid (A2.out.on h3)
          have N3 := hid (N2.out.on h3)
          clear h3 A2 N2
          have HL2 : ∀ f : Nat → Nat → Nat, L f ((m : Int) + 1) (r : Int) = f (m + 1) r := fun f => L_good (m := (m + 1)) (r := r) hg2
          go_wp2_with fail
          refine wp_region_tail (C := fun w' => At W W.heap.size m r w' ∧ At w2 gh ((m : Int) + 1) (r : Int) w') 39 (by kernel_rfl) (by kernel_rfl) (by kernel_rfl) ⟨A3.out.drew, N3.out.drew⟩ ?_
          simp only [List.take_succ_cons, List.take_zero, List.drop_succ_cons, List.drop_zero]
          apply kldR (tGe _ _)
          · rfl
          · rfl
          · exact fun w' hw' => hw'.2.blk.whole
          simp only [Act.put, List.setIfInBounds_toArray, List.set_cons_succ, List.set_cons_zero]
          apply wpK_val
          · rfl
          · intro w' hw'
            go_simp
            exact (leaves_any _ _ w').mono fun e w5 h => ⟨h.1, hw'.1.on h.2, hw'.2.on h.2⟩
          simp only [Act.put, List.setIfInBounds_toArray, List.set_cons_succ, List.set_cons_zero]
          rw [HL2]
          apply kldR (tGe _ _)
          · rfl
          · rfl
          · exact fun w' hw' => hw'.1.blk.whole
          simp only [Act.put, List.setIfInBounds_toArray, List.set_cons_succ, List.set_cons_zero]
          apply wpK_val
          · rfl
          · intro w' hw'
            go_simp
            exact (leaves_any _ _ w').mono fun e w5 h => ⟨h.1, hw'.1.on h.2, hw'.2.on h.2⟩
          simp only [Act.put, List.setIfInBounds_toArray, List.set_cons_succ, List.set_cons_zero]
          rw [L_good hg]
          apply wpK_val
          · rfl
          · intro w' hw'
            have h1 : decide (lv (m + 1) r ≤ lv m r) = false := F0.out
            go_simp
            first | exact rfl | exact ⟨rfl, hw'⟩
          simp only [Act.put, List.setIfInBounds_toArray, List.set_cons_succ, List.set_cons_zero]
          apply wpK_val
          · rfl
          · intro w' hw'
            go_simp
            first | exact rfl | exact ⟨rfl, hw'⟩
          simp only [Act.put, List.setIfInBounds_toArray, List.set_cons_succ, List.set_cons_zero]
          apply kldR (tGe _ _)
          · rfl
          · rfl
          · exact fun w' hw' => hw'.2.blk.whole
          simp only [Act.put, List.setIfInBounds_toArray, List.set_cons_succ, List.set_cons_zero]
          apply wpK_val
          · rfl
          · intro w' hw'
            go_simp
            exact (nodes_any _ _ w').mono fun e w5 h => ⟨h.1, hw'.1.on h.2, hw'.2.on h.2⟩
          simp only [Act.put, List.setIfInBounds_toArray, List.set_cons_succ, List.set_cons_zero]
          rw [HL2]
          apply kldR (tGe _ _)
          · rfl
          · rfl
          · exact fun w' hw' => hw'.1.blk.whole
          simp only [Act.put, List.setIfInBounds_toArray, List.set_cons_succ, List.set_cons_zero]
          apply wpK_val
          · rfl
          · intro w' hw'
            go_simp
            exact (nodes_any _ _ w').mono fun e w5 h => ⟨h.1, hw'.1.on h.2, hw'.2.on h.2⟩
          simp only [Act.put, List.setIfInBounds_toArray, List.set_cons_succ, List.set_cons_zero]
          rw [L_good hg]
          apply wpK_val
          · rfl
          · intro w' hw'
            have h1 : decide (nd (m + 1) r < nd m r) = false := F1.out
            go_simp
            first | exact rfl | exact ⟨rfl, hw'⟩
          simp only [Act.put, List.setIfInBounds_toArray, List.set_cons_succ, List.set_cons_zero]
          apply wpK_val
          · rfl
          · intro w' hw'
            go_simp
            first | exact rfl | exact ⟨rfl, hw'⟩
          simp only [Act.put, List.setIfInBounds_toArray, List.set_cons_succ, List.set_cons_zero]
          apply wpK_val
          · rfl
          · intro w' hw'
            go_simp
            first | exact rfl | exact ⟨rfl, hw'⟩
          simp only [Act.put, List.setIfInBounds_toArray, List.set_cons_succ, List.set_cons_zero]
          apply kldR (tGe _ _)
          · rfl
          · rfl
          · exact fun w' hw' => hw'.2.blk.whole
          simp only [Act.put, List.setIfInBounds_toArray, List.set_cons_succ, List.set_cons_zero]
          apply wpK_val
          · rfl
          · intro w' hw'
            go_simp
            exact (height_any _ _ w').mono fun e w5 h => ⟨h.1, hw'.1.on h.2, hw'.2.on h.2⟩
          simp only [Act.put, List.setIfInBounds_toArray, List.set_cons_succ, List.set_cons_zero]
          rw [HL2]
          apply kldR (tGe _ _)
          · rfl
          · rfl
          · exact fun w' hw' => hw'.1.blk.whole
          simp only [Act.put, List.setIfInBounds_toArray, List.set_cons_succ, List.set_cons_zero]
          apply wpK_val
          · rfl
          · intro w' hw'
            go_simp
            exact (height_any _ _ w').mono fun e w5 h => ⟨h.1, hw'.1.on h.2, hw'.2.on h.2⟩
          simp only [Act.put, List.setIfInBounds_toArray, List.set_cons_succ, List.set_cons_zero]
          rw [L_good hg]
          apply wpK_val
          · rfl
          · intro w' hw'
            have h1 : decide (ht (m + 1) r < ht m r) = false := F2.out
            go_simp
            first | exact rfl | exact ⟨rfl, hw'⟩
          simp only [Act.put, List.setIfInBounds_toArray, List.set_cons_succ, List.set_cons_zero]
          apply wpK_val
          · rfl
          · intro w' hw'
            go_simp
            first | exact rfl | exact ⟨rfl, hw'⟩
          simp only [Act.put, List.setIfInBounds_toArray, List.set_cons_succ, List.set_cons_zero]
          apply wpK_val
          · rfl
          · intro w' hw'
            go_simp
            first | exact rfl | exact ⟨rfl, hw'⟩
          simp only [Act.put, List.setIfInBounds_toArray, List.set_cons_succ, List.set_cons_zero]
          apply kldR (tGe _ _)
          · rfl
          · rfl
          · exact fun w' hw' => hw'.2.blk.whole
          simp only [Act.put, List.setIfInBounds_toArray, List.set_cons_succ, List.set_cons_zero]
          apply wpK_val
          · rfl
          · intro w' hw'
            go_simp
            exact (capacity_any _ _ w').mono fun e w5 h => ⟨h.1, hw'.1.on h.2, hw'.2.on h.2⟩
          simp only [Act.put, List.setIfInBounds_toArray, List.set_cons_succ, List.set_cons_zero]
          rw [HL2]
          apply kldR (tGe _ _)
          · rfl
          · rfl
          · exact fun w' hw' => hw'.1.blk.whole
          simp only [Act.put, List.setIfInBounds_toArray, List.set_cons_succ, List.set_cons_zero]
          apply wpK_val
          · rfl
          · intro w' hw'
            go_simp
            exact (capacity_any _ _ w').mono fun e w5 h => ⟨h.1, hw'.1.on h.2, hw'.2.on h.2⟩
          simp only [Act.put, List.setIfInBounds_toArray, List.set_cons_succ, List.set_cons_zero]
          rw [L_good hg]
          apply wpK_val
          · rfl
          · intro w' hw'
            have h1 : decide (cp (m + 1) r < cp m r) = false := F3.out
            go_simp
            first | exact rfl | exact ⟨rfl, hw'⟩
          simp only [Act.put, List.setIfInBounds_toArray, List.set_cons_succ, List.set_cons_zero]
          apply wpK_val
          · rfl
          · intro w' hw'
            go_simp
            first | exact rfl | exact ⟨rfl, hw'⟩
          simp only [Act.put, List.setIfInBounds_toArray, List.set_cons_succ, List.set_cons_zero]
          apply wpK_val
          · rfl
          · intro w' hw'
            go_simp
            first | exact rfl | exact ⟨rfl, hw'⟩
          simp only [Act.put, List.setIfInBounds_toArray, List.set_cons_succ, List.set_cons_zero]
          apply kldR (tGe _ _)
          · rfl
          · rfl
          · exact fun w' hw' => hw'.2.blk.whole
          simp only [Act.put, List.setIfInBounds_toArray, List.set_cons_succ, List.set_cons_zero]
          apply wpK_val
          · rfl
          · intro w' hw'
            go_simp
            exact (half_any _ _ w').mono fun e w5 h => ⟨h.1, hw'.1.on h.2, hw'.2.on h.2⟩
          simp only [Act.put, List.setIfInBounds_toArray, List.set_cons_succ, List.set_cons_zero]
          rw [HL2]
          apply kldR (tGe _ _)
          · rfl
          · rfl
          · exact fun w' hw' => hw'.1.blk.whole
          simp only [Act.put, List.setIfInBounds_toArray, List.set_cons_succ, List.set_cons_zero]
          apply wpK_val
          · rfl
          · intro w' hw'
            go_simp
            exact (half_any _ _ w').mono fun e w5 h => ⟨h.1, hw'.1.on h.2, hw'.2.on h.2⟩
          simp only [Act.put, List.setIfInBounds_toArray, List.set_cons_succ, List.set_cons_zero]
          rw [L_good hg]
          apply wpK_val
          · rfl
          · intro w' hw'
            have h1 : decide (hf (m + 1) r < hf m r) = false := F4.out
            go_simp
            first | exact rfl | exact ⟨rfl, hw'⟩
          simp only [Act.put, List.setIfInBounds_toArray, List.set_cons_succ, List.set_cons_zero]
          apply wpK_val
          · rfl
          · intro w' hw'
            go_simp
            first | exact rfl | exact ⟨rfl, hw'⟩
          simp only [Act.put, List.setIfInBounds_toArray, List.set_cons_succ, List.set_cons_zero]
          apply wpK_val
          · rfl
          · intro w' hw'
            go_simp
            first | exact rfl | exact ⟨rfl, hw'⟩
          simp only [Act.put, List.setIfInBounds_toArray, List.set_cons_succ, List.set_cons_zero]
          apply kldR (tGe _ _)
          · rfl
          · rfl
          · exact fun w' hw' => hw'.2.blk.whole
          simp only [Act.put, List.setIfInBounds_toArray, List.set_cons_succ, List.set_cons_zero]
          apply wpK_val
          · rfl
          · intro w' hw'
            go_simp
            exact (sectors_any _ _ w').mono fun e w5 h => ⟨h.1, hw'.1.on h.2, hw'.2.on h.2⟩
          simp only [Act.put, List.setIfInBounds_toArray, List.set_cons_succ, List.set_cons_zero]
          rw [HL2]
          apply kldR (tGe _ _)
          · rfl
          · rfl
          · exact fun w' hw' => hw'.1.blk.whole
          simp only [Act.put, List.setIfInBounds_toArray, List.set_cons_succ, List.set_cons_zero]
          apply wpK_val
          · rfl
          · intro w' hw'
            go_simp
            exact (sectors_any _ _ w').mono fun e w5 h => ⟨h.1, hw'.1.on h.2, hw'.2.on h.2⟩
          simp only [Act.put, List.setIfInBounds_toArray, List.set_cons_succ, List.set_cons_zero]
          rw [L_good hg]
          apply wpK_val
          · rfl
          · intro w' hw'
            have h1 : decide (sec (m + 1) r < sec m r) = false := F5.out
            go_simp
            first | exact rfl | exact ⟨rfl, hw'⟩
          simp only [Act.put, List.setIfInBounds_toArray, List.set_cons_succ, List.set_cons_zero]
          refine wpK_nil fun w4 hw4 => ?_
          have A4 := hid hw4
          clear hw4 A3 N3
          go_wp2_with fail
          refine wp_region_tail (C := fun w' => At W W.heap.size m r w' ∧ At w2 gh ((m : Int) + 1) (r : Int) w') 33 (by kernel_rfl) (by kernel_rfl) (by kernel_rfl) ⟨A4.out.1.drew, A4.out.2.drew⟩ ?_
          simp only [List.take_succ_cons, List.take_zero, List.drop_succ_cons, List.drop_zero]
          apply wpK_val
          · rfl
          · intro w' hw'
            go_simp
            first | exact rfl | exact ⟨rfl, hw'⟩
          simp only [Act.put, List.setIfInBounds_toArray, List.set_cons_succ, List.set_cons_zero]
          apply wpK_val
          · rfl
          · intro w' hw'
            go_simp
            first | exact rfl | exact ⟨rfl, hw'⟩
          simp only [Act.put, List.setIfInBounds_toArray, List.set_cons_succ, List.set_cons_zero]
          apply wpK_val
          · rfl
          · intro w' hw'
            go_simp
            first | exact rfl | exact ⟨rfl, hw'⟩
          simp only [Act.put, List.setIfInBounds_toArray, List.set_cons_succ, List.set_cons_zero]
          apply wpK_not
          · rfl
          simp only [Act.put, List.setIfInBounds_toArray, List.set_cons_succ, List.set_cons_zero]
          apply wpK_not
          · rfl
          simp only [Act.put, List.setIfInBounds_toArray, List.set_cons_succ, List.set_cons_zero]
          apply wpK_not
          · rfl
          simp only [Act.put, List.setIfInBounds_toArray, List.set_cons_succ, List.set_cons_zero]
          apply wpK_not
          · rfl
          simp only [Act.put, List.setIfInBounds_toArray, List.set_cons_succ, List.set_cons_zero]
          apply wpK_not
          · rfl
          simp only [Act.put, List.setIfInBounds_toArray, List.set_cons_succ, List.set_cons_zero]
          apply wpK_not
          · rfl
          simp only [Act.put, List.setIfInBounds_toArray, List.set_cons_succ, List.set_cons_zero]
          apply wpK_not
          · rfl
          simp only [Act.put, List.setIfInBounds_toArray, List.set_cons_succ, List.set_cons_zero]
          apply wpK_not
          · rfl
          simp only [Act.put, List.setIfInBounds_toArray, List.set_cons_succ, List.set_cons_zero]
          apply wpK_not
          · rfl
          simp only [Act.put, List.setIfInBounds_toArray, List.set_cons_succ, List.set_cons_zero]
          apply wpK_not
          · rfl
          simp only [Act.put, List.setIfInBounds_toArray, List.set_cons_succ, List.set_cons_zero]
          apply wpK_not
          · rfl
          simp only [Act.put, List.setIfInBounds_toArray, List.set_cons_succ, List.set_cons_zero]
          apply wpK_not
          · rfl
          simp only [Act.put, List.setIfInBounds_toArray, List.set_cons_succ, List.set_cons_zero]
          apply wpK_not
          · rfl
          simp only [Act.put, List.setIfInBounds_toArray, List.set_cons_succ, List.set_cons_zero]
          apply wpK_not
          · rfl
          simp only [Act.put, List.setIfInBounds_toArray, List.set_cons_succ, List.set_cons_zero]
          apply wpK_not
          · rfl
          simp only [Act.put, List.setIfInBounds_toArray, List.set_cons_succ, List.set_cons_zero]
          apply wpK_not
          · rfl
          simp only [Act.put, List.setIfInBounds_toArray, List.set_cons_succ, List.set_cons_zero]
          apply wpK_val
          · rfl
          · intro w' hw'
            go_simp
            first | exact rfl | exact ⟨rfl, hw'⟩
          simp only [Act.put, List.setIfInBounds_toArray, List.set_cons_succ, List.set_cons_zero]
          apply wpK_val
          · rfl
          · intro w' hw'
            go_simp
            first | exact rfl | exact ⟨rfl, hw'⟩
          simp only [Act.put, List.setIfInBounds_toArray, List.set_cons_succ, List.set_cons_zero]
          apply wpK_val
          · rfl
          · intro w' hw'
            go_simp
            first | exact rfl | exact ⟨rfl, hw'⟩
          simp only [Act.put, List.setIfInBounds_toArray, List.set_cons_succ, List.set_cons_zero]
          apply wpK_val
          · rfl
          · intro w' hw'
            go_simp
            first | exact rfl | exact ⟨rfl, hw'⟩
          simp only [Act.put, List.setIfInBounds_toArray, List.set_cons_succ, List.set_cons_zero]
          apply wpK_val
          · rfl
          · intro w' hw'
            go_simp
            first | exact rfl | exact ⟨rfl, hw'⟩
          simp only [Act.put, List.setIfInBounds_toArray, List.set_cons_succ, List.set_cons_zero]
          apply kldR (tGe _ _)
          · rfl
          · rfl
          · exact fun w' hw' => hw'.2.blk.whole
          simp only [Act.put, List.setIfInBounds_toArray, List.set_cons_succ, List.set_cons_zero]
          apply wpK_val
          · rfl
          · intro w' hw'
            go_simp
            exact (logical_any _ _ w').mono fun e w5 h => ⟨h.1, hw'.1.on h.2, hw'.2.on h.2⟩
          simp only [Act.put, List.setIfInBounds_toArray, List.set_cons_succ, List.set_cons_zero]
          rw [HL2]
          apply kldR (tGe _ _)
          · rfl
          · rfl
          · exact fun w' hw' => hw'.1.blk.whole
          simp only [Act.put, List.setIfInBounds_toArray, List.set_cons_succ, List.set_cons_zero]
          apply wpK_val
          · rfl
          · intro w' hw'
            go_simp
            exact (logical_any _ _ w').mono fun e w5 h => ⟨h.1, hw'.1.on h.2, hw'.2.on h.2⟩
          simp only [Act.put, List.setIfInBounds_toArray, List.set_cons_succ, List.set_cons_zero]
          rw [L_good hg]
          apply wpK_val
          · rfl
          · intro w' hw'
            go_simp
            first | exact rfl | exact ⟨rfl, hw'⟩
          simp only [Act.put, List.setIfInBounds_toArray, List.set_cons_succ, List.set_cons_zero]
          apply wpK_val
          · rfl
          · intro w' hw'
            have hcell := hw'.1.c1
            go_simp
            first | exact rfl | exact ⟨rfl, hw'⟩
          simp only [Act.put, List.setIfInBounds_toArray, List.set_cons_succ, List.set_cons_zero]
          apply wpK_val
          · rfl
          · intro w' hw'
            have h1 : IntKind.i64.wrap ((lo m r : Int) + r) = (lo m r : Int) + r := IntWalk.i64_in _ (by have := LB.out; omega)
            go_simp
            first | exact rfl | exact ⟨rfl, hw'⟩
          simp only [Act.put, List.setIfInBounds_toArray, List.set_cons_succ, List.set_cons_zero]
          apply wpK_val
          · rfl
          · intro w' hw'
            have h1 : ((lo (m + 1) r : Int) != (lo m r : Int) + r) = false := LO.out
            go_simp
            first | exact rfl | exact ⟨rfl, hw'⟩
          simp only [Act.put, List.setIfInBounds_toArray, List.set_cons_succ, List.set_cons_zero]
          apply wpK_val
          · rfl
          · intro w' hw'
            go_simp
            first | exact rfl | exact ⟨rfl, hw'⟩
          simp only [Act.put, List.setIfInBounds_toArray, List.set_cons_succ, List.set_cons_zero]
          refine wpK_nil fun w5 hw5 => ?_
          have A5 := hid hw5.1
          clear hw5 A4
          go_wp2_with fail
          go_roundw
          case rel => exact ⟨1 + 1, by go_num, by omega, A5⟩
          case measure => simp [intOf]
        · refine (check_c _ _ _).mono ?_
          rw [cg_bad hg2]
          rintro e w3 ⟨rfl, h3⟩
          have A3 := hid (A2.out.on h3)
          clear h3 A2 N2
          go_wp2_with fail
          go_roundw
          case rel => exact ⟨1 + 1, by go_num, by omega, A3⟩
          case measure => simp [intOf]
      · go_wp2_with fail
        refine (works_any _).mono ?_
        rintro e w2 ⟨rfl, h2⟩
        have A2 := hid (HA.out.on h2)
        clear h2 HA
        go_wp2_with fail
        go_ret
        exact ⟨rfl, A2.out.bel⟩
  · unfold gv
    go_enter Try.func8, Try.ntmps8
    go_wp2_with fail
    refine (check_c _ _ _).mono ?_
    rw [cg_bad hg]
    rintro e w1 ⟨rfl, h1⟩
    have A1 := hid ((At.new W a b).on h1)
    clear h1
    go_wp2_with fail
    refine (works_any _).mono ?_
    rintro e w2 ⟨rfl, h2⟩
    have A2 := hid (A1.out.on h2)
    clear h2 A1
    go_wp2_with fail
    go_ret
    exact ⟨rfl, A2.out.bel⟩
end GeM
end Go.Proofs.Ytfhblbgkpfoecaa
set_option maxRecDepth 100000
namespace Go.Proofs.Ytfhblbgkpfoecaa
open Go.ChangeShapes Go.WideShapes Go.ChangeAt Go.RowKit
attribute [local go_sem] Gives
namespace GeM
theorem kn0 : L nd 4 1 = 3 := by decide +kernel
theorem kn1 : L lo 4 1 = 2 := by decide +kernel
theorem kn2 : L cp 4 1 = 17 := by decide +kernel
theorem kn3 : L lv 5 3 = 15 := by decide +kernel
theorem kn4 : L ht 5 3 = 4 := by decide +kernel
theorem kn5 : L nd 5 3 = 15 := by decide +kernel
theorem kn6 : L cp 5 3 = 29 := by decide +kernel
theorem kn7 : L hf 5 3 = 34 := by decide +kernel
theorem kp0 : pl 4 1 2 21 = some 29 := by decide +kernel
theorem kp1 : pl 4 1 3 0 = none := by decide +kernel
theorem kp2 : pl 4 1 4 0 = some 53 := by decide +kernel
theorem kw0 : wh 4 1 53 = some (4, 0) := by decide +kernel
theorem kw1 : wh 4 1 54 = none := by decide +kernel
set_option maxHeartbeats 8000000 in
theorem gknown_law (W : World) : Calls Try.prog 7 #[] W fun e w' => e = .returned (.bool true) ∧ Below W.heap.size W w' := by
  go_enter Try.func7, Try.ntmps7
  have G0 := hid (show At W W.heap.size 4 1 ((W.alloc (.cells #[.int .i64 4, .int .i64 1] tyG)).alloc (.cells #[.int .i64 5, .int .i64 3] tyG)) from (At.new W 4 1).on (below_al _))
  have H0 := hid (show Blk ((W.alloc (.cells #[.int .i64 4, .int .i64 1] tyG)).alloc (.cells #[.int .i64 5, .int .i64 3] tyG)) (W.heap.size + 1) tyG #[.int .i64 5, .int .i64 3] from Blk.top rfl (by simp))
  go_wp2_with fail
  refine (nodes_any 4 1 _).mono ?_
  rw [kn0]
  rintro e w1 ⟨rfl, h1⟩
  have G1 := hid (G0.out.on h1)
  have H1 := hid (H0.out.below h1 H0.out.lt)
  have q0 := G1.out.c0
  have q1 := G1.out.c1
  have q2 : w1.cell? ⟨W.heap.size + 1, 0, none⟩ = some (.int .i64 5) := H1.out.cell 0
  have q3 : w1.cell? ⟨W.heap.size + 1, 1, none⟩ = some (.int .i64 3) := H1.out.cell 1
  clear h1 G0 H0
  go_wp2_with fail
  refine (logical_any 4 1 _).mono ?_
  rw [kn1]
  rintro e w2 ⟨rfl, h2⟩
  have G2 := hid (G1.out.on h2)
  have H2 := hid (H1.out.below h2 H1.out.lt)
  clear q0 q1 q2 q3
  have q0 := G2.out.c0
  have q1 := G2.out.c1
  have q2 : w2.cell? ⟨W.heap.size + 1, 0, none⟩ = some (.int .i64 5) := H2.out.cell 0
  have q3 : w2.cell? ⟨W.heap.size + 1, 1, none⟩ = some (.int .i64 3) := H2.out.cell 1
  clear h2 G1 H1
  go_wp2_with fail
  refine (capacity_any 4 1 _).mono ?_
  rw [kn2]
  rintro e w3 ⟨rfl, h3⟩
  have G3 := hid (G2.out.on h3)
  have H3 := hid (H2.out.below h3 H2.out.lt)
  clear q0 q1 q2 q3
  have q0 := G3.out.c0
  have q1 := G3.out.c1
  have q2 : w3.cell? ⟨W.heap.size + 1, 0, none⟩ = some (.int .i64 5) := H3.out.cell 0
  have q3 : w3.cell? ⟨W.heap.size + 1, 1, none⟩ = some (.int .i64 3) := H3.out.cell 1
  clear h3 G2 H2
  go_wp2_with fail
  refine (leaves_any 5 3 _).mono ?_
  rw [kn3]
  rintro e w4 ⟨rfl, h4⟩
  have G4 := hid (G3.out.on h4)
  have H4 := hid (H3.out.below h4 H3.out.lt)
  clear q0 q1 q2 q3
  have q0 := G4.out.c0
  have q1 := G4.out.c1
  have q2 : w4.cell? ⟨W.heap.size + 1, 0, none⟩ = some (.int .i64 5) := H4.out.cell 0
  have q3 : w4.cell? ⟨W.heap.size + 1, 1, none⟩ = some (.int .i64 3) := H4.out.cell 1
  clear h4 G3 H3
  go_wp2_with fail
  refine (height_any 5 3 _).mono ?_
  rw [kn4]
  rintro e w5 ⟨rfl, h5⟩
  have G5 := hid (G4.out.on h5)
  have H5 := hid (H4.out.below h5 H4.out.lt)
  clear q0 q1 q2 q3
  have q0 := G5.out.c0
  have q1 := G5.out.c1
  have q2 : w5.cell? ⟨W.heap.size + 1, 0, none⟩ = some (.int .i64 5) := H5.out.cell 0
  have q3 : w5.cell? ⟨W.heap.size + 1, 1, none⟩ = some (.int .i64 3) := H5.out.cell 1
  clear h5 G4 H4
  go_wp2_with fail
  refine (nodes_any 5 3 _).mono ?_
  rw [kn5]
  rintro e w6 ⟨rfl, h6⟩
  have G6 := hid (G5.out.on h6)
  have H6 := hid (H5.out.below h6 H5.out.lt)
  clear q0 q1 q2 q3
  have q0 := G6.out.c0
  have q1 := G6.out.c1
  have q2 : w6.cell? ⟨W.heap.size + 1, 0, none⟩ = some (.int .i64 5) := H6.out.cell 0
  have q3 : w6.cell? ⟨W.heap.size + 1, 1, none⟩ = some (.int .i64 3) := H6.out.cell 1
  clear h6 G5 H5
  go_wp2_with fail
  refine (capacity_any 5 3 _).mono ?_
  rw [kn6]
  rintro e w7 ⟨rfl, h7⟩
  have G7 := hid (G6.out.on h7)
  have H7 := hid (H6.out.below h7 H6.out.lt)
  clear q0 q1 q2 q3
  have q0 := G7.out.c0
  have q1 := G7.out.c1
  have q2 : w7.cell? ⟨W.heap.size + 1, 0, none⟩ = some (.int .i64 5) := H7.out.cell 0
  have q3 : w7.cell? ⟨W.heap.size + 1, 1, none⟩ = some (.int .i64 3) := H7.out.cell 1
  clear h7 G6 H6
  go_wp2_with fail
  refine (half_any 5 3 _).mono ?_
  rw [kn7]
  rintro e w8 ⟨rfl, h8⟩
  have G8 := hid (G7.out.on h8)
  have H8 := hid (H7.out.below h8 H7.out.lt)
  clear q0 q1 q2 q3
  have q0 := G8.out.c0
  have q1 := G8.out.c1
  have q2 : w8.cell? ⟨W.heap.size + 1, 0, none⟩ = some (.int .i64 5) := H8.out.cell 0
  have q3 : w8.cell? ⟨W.heap.size + 1, 1, none⟩ = some (.int .i64 3) := H8.out.cell 1
  clear h8 G7 H7
  go_wp2_with fail
  refine (place_any 4 1 2 21 (by omega) _).mono ?_
  rw [kp0]
  rintro e w9 ⟨rfl, h9⟩
  have G9 := hid (G8.out.on h9)
  have H9 := hid (H8.out.below h9 H8.out.lt)
  clear q0 q1 q2 q3
  have q0 := G9.out.c0
  have q1 := G9.out.c1
  have q2 : w9.cell? ⟨W.heap.size + 1, 0, none⟩ = some (.int .i64 5) := H9.out.cell 0
  have q3 : w9.cell? ⟨W.heap.size + 1, 1, none⟩ = some (.int .i64 3) := H9.out.cell 1
  clear h9 G8 H8
  unfold plV
  go_wp2_with fail
  refine (place_any 4 1 3 0 (by omega) _).mono ?_
  rw [kp1]
  rintro e w10 ⟨rfl, h10⟩
  have G10 := hid (G9.out.on h10)
  have H10 := hid (H9.out.below h10 H9.out.lt)
  clear q0 q1 q2 q3
  have q0 := G10.out.c0
  have q1 := G10.out.c1
  have q2 : w10.cell? ⟨W.heap.size + 1, 0, none⟩ = some (.int .i64 5) := H10.out.cell 0
  have q3 : w10.cell? ⟨W.heap.size + 1, 1, none⟩ = some (.int .i64 3) := H10.out.cell 1
  clear h10 G9 H9
  unfold plV
  go_wp2_with fail
  refine (place_any 4 1 4 0 (by omega) _).mono ?_
  rw [kp2]
  rintro e w11 ⟨rfl, h11⟩
  have G11 := hid (G10.out.on h11)
  have H11 := hid (H10.out.below h11 H10.out.lt)
  clear q0 q1 q2 q3
  have q0 := G11.out.c0
  have q1 := G11.out.c1
  have q2 : w11.cell? ⟨W.heap.size + 1, 0, none⟩ = some (.int .i64 5) := H11.out.cell 0
  have q3 : w11.cell? ⟨W.heap.size + 1, 1, none⟩ = some (.int .i64 3) := H11.out.cell 1
  clear h11 G10 H10
  unfold plV
  go_wp2_with fail
  refine (what_any 4 1 53 _).mono ?_
  rw [kw0]
  rintro e w12 ⟨rfl, h12⟩
  have G12 := hid (G11.out.on h12)
  have H12 := hid (H11.out.below h12 H11.out.lt)
  clear q0 q1 q2 q3
  have q0 := G12.out.c0
  have q1 := G12.out.c1
  have q2 : w12.cell? ⟨W.heap.size + 1, 0, none⟩ = some (.int .i64 5) := H12.out.cell 0
  have q3 : w12.cell? ⟨W.heap.size + 1, 1, none⟩ = some (.int .i64 3) := H12.out.cell 1
  clear h12 G11 H11
  unfold whV
  go_wp2_with fail
  refine (what_any 4 1 54 _).mono ?_
  rw [kw1]
  rintro e w13 ⟨rfl, h13⟩
  have G13 := hid (G12.out.on h13)
  have H13 := hid (H12.out.below h13 H12.out.lt)
  clear q0 q1 q2 q3
  have q0 := G13.out.c0
  have q1 := G13.out.c1
  have q2 : w13.cell? ⟨W.heap.size + 1, 0, none⟩ = some (.int .i64 5) := H13.out.cell 0
  have q3 : w13.cell? ⟨W.heap.size + 1, 1, none⟩ = some (.int .i64 3) := H13.out.cell 1
  clear h13 G12 H12
  unfold whV
  go_wp2_with fail
  obtain ⟨s, hs⟩ : ∃ n, n = w13.heap.size := ⟨_, rfl⟩
  generalize hws : World.alloc w13 _ = ws
  have S1 := hid (show Blk ws s tyG #[.int .i64 3, .int .i64 1, .int .i64 65, .int .i64 1, .int .i64 4, .int .i64 0, .int .i64 4, .int .i64 65] by rw [← hws, hs]; exact Blk.new _ _ _)
  have B1 := hid (show Below W.heap.size W ws by rw [← hws]; exact G13.out.bel.alloc G13.out.bel.size _)
  rw [← hs]
  clear hws hs q0 q1 q2 q3 G13 H13
  go_loopw [16] (fun u wr => ∃ k : Nat, u = .int .i64 k ∧ k ≤ 4 ∧ Hid (Blk wr s tyG #[.int .i64 3, .int .i64 1, .int .i64 65, .int .i64 1, .int .i64 4, .int .i64 0, .int .i64 4, .int .i64 65]) ∧ Hid (Below W.heap.size W wr)) (fun u _ => 4 - (intOf u).toNat)
  case atStart => exact ⟨0, rfl, by omega, S1, B1⟩
  case round =>
    obtain ⟨k, rfl, hk, HS, HB⟩ := hrel
    clear S1 B1
    have hk' : k = 0 ∨ k = 1 ∨ k = 2 ∨ k = 3 ∨ k = 4 := by omega
    rcases hk' with rfl | rfl | rfl | rfl | rfl
    · have q0 : wr.cell? ⟨s, 0, none⟩ = some (.int .i64 3) := HS.out.cell 0
      have q1 : wr.cell? ⟨s, 1, none⟩ = some (.int .i64 1) := HS.out.cell 1
      go_wp2_with fail
      refine (check_c 3 1 _).mono ?_
      rw [show cg 3 1 = 2 from rfl]
      rintro e w2 ⟨rfl, h2⟩
      have S2 := hid (HS.out.below h2 HS.out.lt)
      have B2 := hid (HB.out.trans (h2.mono HB.out.size))
      clear h2 HS HB q0 q1
      go_wp2_with fail
      go_roundw
      case rel => exact ⟨1, by go_num, by omega, S2, B2⟩
      case measure => simp [intOf]
    · have q0 : wr.cell? ⟨s, 2, none⟩ = some (.int .i64 65) := HS.out.cell 2
      have q1 : wr.cell? ⟨s, 3, none⟩ = some (.int .i64 1) := HS.out.cell 3
      go_wp2_with fail
      refine (check_c 65 1 _).mono ?_
      rw [show cg 65 1 = 2 from rfl]
      rintro e w2 ⟨rfl, h2⟩
      have S2 := hid (HS.out.below h2 HS.out.lt)
      have B2 := hid (HB.out.trans (h2.mono HB.out.size))
      clear h2 HS HB q0 q1
      go_wp2_with fail
      go_roundw
      case rel => exact ⟨2, by go_num, by omega, S2, B2⟩
      case measure => simp [intOf]
    · have q0 : wr.cell? ⟨s, 4, none⟩ = some (.int .i64 4) := HS.out.cell 4
      have q1 : wr.cell? ⟨s, 5, none⟩ = some (.int .i64 0) := HS.out.cell 5
      go_wp2_with fail
      refine (check_c 4 0 _).mono ?_
      rw [show cg 4 0 = 2 from rfl]
      rintro e w2 ⟨rfl, h2⟩
      have S2 := hid (HS.out.below h2 HS.out.lt)
      have B2 := hid (HB.out.trans (h2.mono HB.out.size))
      clear h2 HS HB q0 q1
      go_wp2_with fail
      go_roundw
      case rel => exact ⟨3, by go_num, by omega, S2, B2⟩
      case measure => simp [intOf]
    · have q0 : wr.cell? ⟨s, 6, none⟩ = some (.int .i64 4) := HS.out.cell 6
      have q1 : wr.cell? ⟨s, 7, none⟩ = some (.int .i64 65) := HS.out.cell 7
      go_wp2_with fail
      refine (check_c 4 65 _).mono ?_
      rw [show cg 4 65 = 2 from rfl]
      rintro e w2 ⟨rfl, h2⟩
      have S2 := hid (HS.out.below h2 HS.out.lt)
      have B2 := hid (HB.out.trans (h2.mono HB.out.size))
      clear h2 HS HB q0 q1
      go_wp2_with fail
      go_roundw
      case rel => exact ⟨4, by go_num, by omega, S2, B2⟩
      case measure => simp [intOf]
    · go_wp2_with fail
      refine (works_any _).mono ?_
      rintro e w2 ⟨rfl, h2⟩
      have B2 := hid (HB.out.trans (h2.mono HB.out.size))
      clear h2 HS HB
      go_wp2_with fail
      go_ret
      exact ⟨rfl, B2.out⟩
end GeM
end Go.Proofs.Ytfhblbgkpfoecaa
