/-
  The landed bus: what each kind of step does.
  The landed bus: the steps ahead of an I/O.
  The landed bus: doSteps.
  The landed bus: an I/O, over whatever function does it.
  The landed bus: an I/O of a member.
  The landed bus: Read, Write, Flush.
  The landed bus: Read, Write, Flush.
  The landed bus: Read, Write, Flush: the walks.
  The landed bus: Read, Write, Flush.
  The landed bus: a label as a sector; a number stored in a drawn region.
  The landed bus: Cell.
-/
import Derived.Test.YthogklchmhjjkaaGreatMrg8
import Derived.Laws.CopyOwn
set_option linter.unusedVariables false
set_option linter.unusedSimpArgs false
set_option maxRecDepth 100000
namespace Go.Proofs.YthogklchmhjjkaaGreat
open Go.ChangeShapes Go.WideShapes Go.ChangeAt Go.RowKit
attribute [local go_sem] Gives GivesE
namespace BuP
open BuM MbM MbP MpV
section
variable {w w' w2 : World} {d g k k2 : Nat} {F : Fq} {b b2 : Bs}
theorem outQ.behind {rB : RepB} (hb : Below w.heap.size w w') (h : outQ rB w' g F k2 b2 w2) : outQ rB w g F k2 b2 w2 := outQ.trans rfl rfl (fun _ e => .inl e) (fun _ e => .inr (.inl e)) (Turn.of_new hb) h
theorem outQ.ahead (h : outQ (RepK d) w g F k b w') (hb : Below w'.heap.size w' w2) : outQ (RepK d) w g F k b w2 := by
  obtain ⟨F', h1, h2, h3, h4, h5, h6⟩ := h
  exact ⟨F', h1.belowK hb, h2, h3, h4, h5, h6.trans (Turn.of_new (S := fun _ => False) hb) fun _ e => e.elim⟩
theorem Pp.none (H : Pp (RepK d) w g F k b) (hb : Below w.heap.size w w') : outQ (RepK d) w g F (k + 1) b w' := (outQ.same H hb).mono (Nat.le_succ _)
theorem mem_nat {l : List St} {m : Int} (h : mem l m = true) : ∃ mi : Nat, m = mi ∧ mi < l.length := by
  unfold mem at h
  rw [decide_eq_true_eq] at h
  obtain ⟨mi, rfl⟩ : ∃ mi : Nat, m = mi := Int.eq_ofNat_of_zero_le h.1
  exact ⟨mi, rfl, by omega⟩
theorem mem_not {l : List St} {m : Int} (h : ¬ mem l m = true) : ¬ (0 ≤ m ∧ m < (l.length : Int)) := by
  unfold mem at h
  rw [decide_eq_true_eq] at h
  exact h
set_option maxHeartbeats 600000 in
set_option maxRecDepth 100000 in
theorem lb_act1 (H : Pp (RepK d) w g F k b) (hk : k ≤ 8000) (y : Stp × SlB) (hs : okS y.1) : Calls Tryz.prog 85 #[MbP.at' g, .agg (stL y).toArray] w fun e w' => e = .returned (.tuple #[]) ∧ outQ (RepK d) w g F (k + 1) { b with ms := if mem b.ms y.1.m then b.ms.set y.1.m.toNat (seT (BuM.at' b.ms y.1.m) y.1.i y.1.s) else b.ms } w' := by
  obtain ⟨⟨sa, kd, sm, si, sn, sd, pk⟩, x⟩ := y
  have HH := hid H
  have HS := hid hs
  have hps := H.pos
  clear H hs
  unfold MbP.at'
  go_enter Tryz.func85, Tryz.ntmps85
  go_upto_region 1 with fail
  generalize hw1 : World.alloc w _ = w1
  obtain ⟨gS, hgS⟩ : ∃ n, n = w.heap.size := ⟨_, rfl⟩
  have b1 := hid (show Blk w1 gS 62 (stL (⟨sa, kd, sm, si, sn, sd, pk⟩, x)).toArray by rw [← hw1, hgS]; exact Blk.new _ _ _)
  have BEL := hid (show Below w.heap.size w w1 by rw [← hw1]; exact (Below.refl _ _).alloc (Nat.le_refl _) _)
  rw [← hgS]
  clear hw1 hgS
  have H1 := hid (HH.out.belowK BEL.out)
  have bw := b1.out.whole
  have qm : w1.cell? ⟨gS, 2, none⟩ = some (.int .i64 sm) := st_m (o := 0) bw
  have qi : w1.cell? ⟨gS, 3, none⟩ = some (.int .i64 si) := st_i (o := 0) bw
  have qn : w1.cell? ⟨gS, 4, none⟩ = some (.int .i64 sn) := st_n (o := 0) bw
  clear bw HH
  by_cases hm : mem b.ms sm = true
  · have HM := hid hm
    obtain ⟨mi, rfl, hmi⟩ := mem_nat hm
    obtain ⟨gi, st, A, c, bA, oA, h1, h2, h3, h4, h5, rfl, h7, _⟩ := H1.out.at hmi
    have R1 := hid h3
    have HGI := hid h1
    have hat : BuM.at' b.ms (mi : Int) = st := h4
    have HAT := hid hat
    have hok : st.ok := H1.out.ok.1 st (List.mem_of_getElem? h2)
    have HOK := hid hok
    clear hm h1 h2 h3 h4 hat hok
    refine wp_region_tail (C := fun w' => Below w1.heap.size w1 w') 8 (by kernel_rfl) (by kernel_rfl) (by kernel_rfl) (Below.refl _ _).drew ?_
    simp only [List.take_succ_cons, List.take_zero, List.drop_succ_cons, List.drop_zero]
    apply wpK_val
    · rfl
    · intro w' hw'
      go_simp
      first | exact rfl | exact ⟨rfl, hw'⟩
    simp only [Act.put, List.setIfInBounds_toArray, List.set_cons_succ, List.set_cons_zero]
    apply wpK_val
    · rfl
    · intro w' hw'
      go_simp
      first | exact rfl | exact ⟨rfl, hw'⟩
    simp only [Act.put, List.setIfInBounds_toArray, List.set_cons_succ, List.set_cons_zero]
    apply wpK_val
    · rfl
    · intro w' hw'
      have hcell := (hw'.cell (p := ⟨gS, 2, none⟩) (World.block_lt_of_cell? w1 _ qm)).trans qm
      go_simp
      first | exact rfl | exact ⟨rfl, hw'⟩
    simp only [Act.put, List.setIfInBounds_toArray, List.set_cons_succ, List.set_cons_zero]
    apply wpK_val
    · rfl
    · intro w' hw'
      go_simp
      exact (lb_in (w := w') ((hw'.cell (p := ⟨g, 0, none⟩) (World.block_lt_of_cell? w1 _ h5)).trans h5) hps hmi ((hw'.cell (p := ⟨bA, oA + mi, none⟩) (World.block_lt_of_cell? w1 _ h7)).trans h7)).mono fun e w2 h => ⟨h.1, h.2 ▸ hw'⟩
    simp only [Act.put, List.setIfInBounds_toArray, List.set_cons_succ, List.set_cons_zero]
    apply wpK_val
    · rfl
    · intro w' hw'
      go_simp
      first | exact rfl | exact ⟨rfl, hw'⟩
    simp only [Act.put, List.setIfInBounds_toArray, List.set_cons_succ, List.set_cons_zero]
    apply wpK_val
    · rfl
    · intro w' hw'
      have hcell := (hw'.cell (p := ⟨gS, 3, none⟩) (World.block_lt_of_cell? w1 _ qi)).trans qi
      go_simp
      first | exact rfl | exact ⟨rfl, hw'⟩
    simp only [Act.put, List.setIfInBounds_toArray, List.set_cons_succ, List.set_cons_zero]
    apply wpK_val
    · rfl
    · intro w' hw'
      go_simp
      first | exact rfl | exact ⟨rfl, hw'⟩
    simp only [Act.put, List.setIfInBounds_toArray, List.set_cons_succ, List.set_cons_zero]
    apply kldA tSe
    · rfl
    · rfl
    · exact fun w' hw' => st_s (o := 0) (x := (⟨sa, kd, _, si, sn, sd, pk⟩, x)) (b1.out.below hw' b1.out.lt).whole
    simp only [Act.put, List.setIfInBounds_toArray, List.set_cons_succ, List.set_cons_zero]
    intro w2 hC2
    have B2 := hid hC2
    have H2 := hid (H1.out.belowK hC2)
    have R2 := hid (MbP.memB_ok.frame R1.out (T := fun _ => False) (Turn.of_new hC2) fun _ _ e => e)
    clear hC2 h5 h7 R1 qm qi qn b1 H1
    go_wp2_with fail
    refine (MbP.memB_ok.set R2.out HOK.out (by omega) si sd HS.out.1).mono ?_
    rintro e w4 ⟨rfl, ho⟩
    have HO := hid (show outQ (RepK d) w g F (k + 1) { b with ms := if mem b.ms (mi : Int) = true then b.ms.set (mi : Int).toNat (seT (BuM.at' b.ms (mi : Int)) si sd) else b.ms } w4 from by
      rw [if_pos HM.out, HAT.out, Int.toNat_natCast]
      exact outQ.behind BEL.out (outQ.behind B2.out (Pp.put (repB := RepK d) (repK_fr d) H2.out HGI.out ho (Nat.le_succ _) (se_ok HOK.out _ HS.out.1))))
    clear ho H2 R2
    go_wp2_with fail
    refine bodyPost_end (results_none rfl _ _ _) rfl ?_
    exact ⟨rfl, by have h9 := HO.out; rw [if_pos HM.out, Int.toNat_natCast] at h9; exact h9⟩
  · have HM := hid hm
    obtain ⟨A, c, p0⟩ := H1.out.hd
    have hmn := mem_not hm
    clear hm
    refine wp_region_tail (C := fun w' => Below w1.heap.size w1 w') 8 (by kernel_rfl) (by kernel_rfl) (by kernel_rfl) (Below.refl _ _).drew ?_
    simp only [List.take_succ_cons, List.take_zero, List.drop_succ_cons, List.drop_zero]
    apply wpK_val
    · rfl
    · intro w' hw'
      go_simp
      first | exact rfl | exact ⟨rfl, hw'⟩
    simp only [Act.put, List.setIfInBounds_toArray, List.set_cons_succ, List.set_cons_zero]
    apply wpK_val
    · rfl
    · intro w' hw'
      go_simp
      first | exact rfl | exact ⟨rfl, hw'⟩
    simp only [Act.put, List.setIfInBounds_toArray, List.set_cons_succ, List.set_cons_zero]
    apply wpK_val
    · rfl
    · intro w' hw'
      have hcell := (hw'.cell (p := ⟨gS, 2, none⟩) (World.block_lt_of_cell? w1 _ qm)).trans qm
      go_simp
      first | exact rfl | exact ⟨rfl, hw'⟩
    simp only [Act.put, List.setIfInBounds_toArray, List.set_cons_succ, List.set_cons_zero]
    apply wpK_val
    · rfl
    · intro w' hw'
      go_simp
      exact (lb_out (w := w') ((hw'.cell (p := ⟨g, 0, none⟩) (World.block_lt_of_cell? w1 _ p0)).trans p0) hps hmn).mono fun e w2 h => ⟨h.1, h.2 ▸ hw'⟩
    simp only [Act.put, List.setIfInBounds_toArray, List.set_cons_succ, List.set_cons_zero]
    apply wpK_val
    · rfl
    · intro w' hw'
      go_simp
      first | exact rfl | exact ⟨rfl, hw'⟩
    simp only [Act.put, List.setIfInBounds_toArray, List.set_cons_succ, List.set_cons_zero]
    apply wpK_val
    · rfl
    · intro w' hw'
      have hcell := (hw'.cell (p := ⟨gS, 3, none⟩) (World.block_lt_of_cell? w1 _ qi)).trans qi
      go_simp
      first | exact rfl | exact ⟨rfl, hw'⟩
    simp only [Act.put, List.setIfInBounds_toArray, List.set_cons_succ, List.set_cons_zero]
    apply wpK_val
    · rfl
    · intro w' hw'
      go_simp
      first | exact rfl | exact ⟨rfl, hw'⟩
    simp only [Act.put, List.setIfInBounds_toArray, List.set_cons_succ, List.set_cons_zero]
    apply kldA tSe
    · rfl
    · rfl
    · exact fun w' hw' => st_s (o := 0) (x := (⟨sa, kd, _, si, sn, sd, pk⟩, x)) (b1.out.below hw' b1.out.lt).whole
    simp only [Act.put, List.setIfInBounds_toArray, List.set_cons_succ, List.set_cons_zero]
    intro w2 hC2
    have B2 := hid hC2
    clear hC2 p0 qm qi qn b1
    go_wp2_with fail
    refine (lb_setN si sd _).mono ?_
    rintro e w4 ⟨rfl, hb⟩
    have HO := hid (show outQ (RepK d) w g F (k + 1) { b with ms := if mem b.ms sm = true then b.ms.set sm.toNat (seT (BuM.at' b.ms sm) si sd) else b.ms } w4 from by
      rw [if_neg HM.out]
      exact outQ.behind BEL.out (H1.out.none (B2.out.trans (hb.mono B2.out.size))))
    clear hb H1
    go_wp2_with fail
    refine bodyPost_end (results_none rfl _ _ _) rfl ?_
    exact ⟨rfl, by have h9 := HO.out; rw [if_neg HM.out] at h9; exact h9⟩
set_option maxHeartbeats 600000 in
set_option maxRecDepth 100000 in
theorem lb_act2 (H : Pp (RepK d) w g F k b) (hk : k ≤ 8000) (y : Stp × SlB) (hs : okS y.1) : Calls Tryz.prog 87 #[MbP.at' g, .agg (stL y).toArray] w fun e w' => e = .returned (.tuple #[]) ∧ outQ (RepK d) w g F (k + 1) { b with ms := if mem b.ms y.1.m then b.ms.set y.1.m.toNat (mkT (BuM.at' b.ms y.1.m)) else b.ms } w' := by
  obtain ⟨⟨sa, kd, sm, si, sn, sd, pk⟩, x⟩ := y
  have HH := hid H
  have HS := hid hs
  have hps := H.pos
  clear H hs
  unfold MbP.at'
  go_enter Tryz.func87, Tryz.ntmps87
  go_upto_region 1 with fail
  generalize hw1 : World.alloc w _ = w1
  obtain ⟨gS, hgS⟩ : ∃ n, n = w.heap.size := ⟨_, rfl⟩
  have b1 := hid (show Blk w1 gS 62 (stL (⟨sa, kd, sm, si, sn, sd, pk⟩, x)).toArray by rw [← hw1, hgS]; exact Blk.new _ _ _)
  have BEL := hid (show Below w.heap.size w w1 by rw [← hw1]; exact (Below.refl _ _).alloc (Nat.le_refl _) _)
  rw [← hgS]
  clear hw1 hgS
  have H1 := hid (HH.out.belowK BEL.out)
  have bw := b1.out.whole
  have qm : w1.cell? ⟨gS, 2, none⟩ = some (.int .i64 sm) := st_m (o := 0) bw
  have qi : w1.cell? ⟨gS, 3, none⟩ = some (.int .i64 si) := st_i (o := 0) bw
  have qn : w1.cell? ⟨gS, 4, none⟩ = some (.int .i64 sn) := st_n (o := 0) bw
  clear bw HH
  by_cases hm : mem b.ms sm = true
  · have HM := hid hm
    obtain ⟨mi, rfl, hmi⟩ := mem_nat hm
    obtain ⟨gi, st, A, c, bA, oA, h1, h2, h3, h4, h5, rfl, h7, _⟩ := H1.out.at hmi
    have R1 := hid h3
    have HGI := hid h1
    have hat : BuM.at' b.ms (mi : Int) = st := h4
    have HAT := hid hat
    have hok : st.ok := H1.out.ok.1 st (List.mem_of_getElem? h2)
    have HOK := hid hok
    clear hm h1 h2 h3 h4 hat hok
    go_wp2_with fail
    refine (lb_in h5 hps hmi h7).mono ?_
    rintro e w' ⟨rfl, rfl⟩
    have B2 := hid (Below.refl w1.heap.size w1)
    have H2 := H1
    have R2 := R1
    clear h5 h7 R1 qm qi qn b1 H1
    go_wp2_with fail
    refine (MbP.memB_ok.mark R2.out HOK.out (by omega)).mono ?_
    rintro e w4 ⟨rfl, ho⟩
    have HO := hid (show outQ (RepK d) w g F (k + 1) { b with ms := if mem b.ms (mi : Int) = true then b.ms.set (mi : Int).toNat (mkT (BuM.at' b.ms (mi : Int))) else b.ms } w4 from by
      rw [if_pos HM.out, HAT.out, Int.toNat_natCast]
      exact outQ.behind BEL.out (outQ.behind B2.out (Pp.put (repB := RepK d) (repK_fr d) H2.out HGI.out ho (Nat.le_succ _) (mk_ok HOK.out))))
    clear ho H2 R2
    go_wp2_with fail
    refine bodyPost_end (results_none rfl _ _ _) rfl ?_
    exact ⟨rfl, by have h9 := HO.out; rw [if_pos HM.out, Int.toNat_natCast] at h9; exact h9⟩
  · have HM := hid hm
    obtain ⟨A, c, p0⟩ := H1.out.hd
    have hmn := mem_not hm
    clear hm
    go_wp2_with fail
    refine (lb_out p0 hps hmn).mono ?_
    rintro e w' ⟨rfl, rfl⟩
    have B2 := hid (Below.refl w1.heap.size w1)
    clear p0 qm qi qn b1
    go_wp2_with fail
    refine (lb_markN _).mono ?_
    rintro e w4 ⟨rfl, hb⟩
    have HO := hid (show outQ (RepK d) w g F (k + 1) { b with ms := if mem b.ms sm = true then b.ms.set sm.toNat (mkT (BuM.at' b.ms sm)) else b.ms } w4 from by
      rw [if_neg HM.out]
      exact outQ.behind BEL.out (H1.out.none (B2.out.trans (hb.mono B2.out.size))))
    clear hb H1
    go_wp2_with fail
    refine bodyPost_end (results_none rfl _ _ _) rfl ?_
    exact ⟨rfl, by have h9 := HO.out; rw [if_neg HM.out] at h9; exact h9⟩
set_option maxHeartbeats 600000 in
set_option maxRecDepth 100000 in
theorem lb_act3 (H : Pp (RepK d) w g F k b) (hk : k ≤ 8000) (y : Stp × SlB) (hs : okS y.1) : Calls Tryz.prog 89 #[MbP.at' g, .agg (stL y).toArray] w fun e w' => e = .returned (.tuple #[]) ∧ outQ (RepK d) w g F (k + 1) { b with ms := if mem b.ms y.1.m then b.ms.set y.1.m.toNat (bkT (BuM.at' b.ms y.1.m) y.1.n) else b.ms } w' := by
  obtain ⟨⟨sa, kd, sm, si, sn, sd, pk⟩, x⟩ := y
  have HH := hid H
  have HS := hid hs
  have hps := H.pos
  clear H hs
  unfold MbP.at'
  go_enter Tryz.func89, Tryz.ntmps89
  go_upto_region 1 with fail
  generalize hw1 : World.alloc w _ = w1
  obtain ⟨gS, hgS⟩ : ∃ n, n = w.heap.size := ⟨_, rfl⟩
  have b1 := hid (show Blk w1 gS 62 (stL (⟨sa, kd, sm, si, sn, sd, pk⟩, x)).toArray by rw [← hw1, hgS]; exact Blk.new _ _ _)
  have BEL := hid (show Below w.heap.size w w1 by rw [← hw1]; exact (Below.refl _ _).alloc (Nat.le_refl _) _)
  rw [← hgS]
  clear hw1 hgS
  have H1 := hid (HH.out.belowK BEL.out)
  have bw := b1.out.whole
  have qm : w1.cell? ⟨gS, 2, none⟩ = some (.int .i64 sm) := st_m (o := 0) bw
  have qi : w1.cell? ⟨gS, 3, none⟩ = some (.int .i64 si) := st_i (o := 0) bw
  have qn : w1.cell? ⟨gS, 4, none⟩ = some (.int .i64 sn) := st_n (o := 0) bw
  clear bw HH
  by_cases hm : mem b.ms sm = true
  · have HM := hid hm
    obtain ⟨mi, rfl, hmi⟩ := mem_nat hm
    obtain ⟨gi, st, A, c, bA, oA, h1, h2, h3, h4, h5, rfl, h7, _⟩ := H1.out.at hmi
    have R1 := hid h3
    have HGI := hid h1
    have hat : BuM.at' b.ms (mi : Int) = st := h4
    have HAT := hid hat
    have hok : st.ok := H1.out.ok.1 st (List.mem_of_getElem? h2)
    have HOK := hid hok
    clear hm h1 h2 h3 h4 hat hok
    refine wp_region_tail (C := fun w' => Below w1.heap.size w1 w') 6 (by kernel_rfl) (by kernel_rfl) (by kernel_rfl) (Below.refl _ _).drew ?_
    simp only [List.take_succ_cons, List.take_zero, List.drop_succ_cons, List.drop_zero]
    apply wpK_val
    · rfl
    · intro w' hw'
      go_simp
      first | exact rfl | exact ⟨rfl, hw'⟩
    simp only [Act.put, List.setIfInBounds_toArray, List.set_cons_succ, List.set_cons_zero]
    apply wpK_val
    · rfl
    · intro w' hw'
      go_simp
      first | exact rfl | exact ⟨rfl, hw'⟩
    simp only [Act.put, List.setIfInBounds_toArray, List.set_cons_succ, List.set_cons_zero]
    apply wpK_val
    · rfl
    · intro w' hw'
      have hcell := (hw'.cell (p := ⟨gS, 2, none⟩) (World.block_lt_of_cell? w1 _ qm)).trans qm
      go_simp
      first | exact rfl | exact ⟨rfl, hw'⟩
    simp only [Act.put, List.setIfInBounds_toArray, List.set_cons_succ, List.set_cons_zero]
    apply wpK_val
    · rfl
    · intro w' hw'
      go_simp
      exact (lb_in (w := w') ((hw'.cell (p := ⟨g, 0, none⟩) (World.block_lt_of_cell? w1 _ h5)).trans h5) hps hmi ((hw'.cell (p := ⟨bA, oA + mi, none⟩) (World.block_lt_of_cell? w1 _ h7)).trans h7)).mono fun e w2 h => ⟨h.1, h.2 ▸ hw'⟩
    simp only [Act.put, List.setIfInBounds_toArray, List.set_cons_succ, List.set_cons_zero]
    apply wpK_val
    · rfl
    · intro w' hw'
      go_simp
      first | exact rfl | exact ⟨rfl, hw'⟩
    simp only [Act.put, List.setIfInBounds_toArray, List.set_cons_succ, List.set_cons_zero]
    apply wpK_val
    · rfl
    · intro w' hw'
      have hcell := (hw'.cell (p := ⟨gS, 4, none⟩) (World.block_lt_of_cell? w1 _ qn)).trans qn
      go_simp
      first | exact rfl | exact ⟨rfl, hw'⟩
    simp only [Act.put, List.setIfInBounds_toArray, List.set_cons_succ, List.set_cons_zero]
    intro w2 hC2
    have B2 := hid hC2
    have H2 := hid (H1.out.belowK hC2)
    have R2 := hid (MbP.memB_ok.frame R1.out (T := fun _ => False) (Turn.of_new hC2) fun _ _ e => e)
    clear hC2 h5 h7 R1 qm qi qn b1 H1
    go_wp2_with fail
    refine (MbP.memB_ok.back R2.out HOK.out (by omega) sn).mono ?_
    rintro e w4 ⟨rfl, ho⟩
    have HO := hid (show outQ (RepK d) w g F (k + 1) { b with ms := if mem b.ms (mi : Int) = true then b.ms.set (mi : Int).toNat (bkT (BuM.at' b.ms (mi : Int)) sn) else b.ms } w4 from by
      rw [if_pos HM.out, HAT.out, Int.toNat_natCast]
      exact outQ.behind BEL.out (outQ.behind B2.out (Pp.put (repB := RepK d) (repK_fr d) H2.out HGI.out ho (Nat.le_succ _) (bk_ok HOK.out _))))
    clear ho H2 R2
    go_wp2_with fail
    refine bodyPost_end (results_none rfl _ _ _) rfl ?_
    exact ⟨rfl, by have h9 := HO.out; rw [if_pos HM.out, Int.toNat_natCast] at h9; exact h9⟩
  · have HM := hid hm
    obtain ⟨A, c, p0⟩ := H1.out.hd
    have hmn := mem_not hm
    clear hm
    refine wp_region_tail (C := fun w' => Below w1.heap.size w1 w') 6 (by kernel_rfl) (by kernel_rfl) (by kernel_rfl) (Below.refl _ _).drew ?_
    simp only [List.take_succ_cons, List.take_zero, List.drop_succ_cons, List.drop_zero]
    apply wpK_val
    · rfl
    · intro w' hw'
      go_simp
      first | exact rfl | exact ⟨rfl, hw'⟩
    simp only [Act.put, List.setIfInBounds_toArray, List.set_cons_succ, List.set_cons_zero]
    apply wpK_val
    · rfl
    · intro w' hw'
      go_simp
      first | exact rfl | exact ⟨rfl, hw'⟩
    simp only [Act.put, List.setIfInBounds_toArray, List.set_cons_succ, List.set_cons_zero]
    apply wpK_val
    · rfl
    · intro w' hw'
      have hcell := (hw'.cell (p := ⟨gS, 2, none⟩) (World.block_lt_of_cell? w1 _ qm)).trans qm
      go_simp
      first | exact rfl | exact ⟨rfl, hw'⟩
    simp only [Act.put, List.setIfInBounds_toArray, List.set_cons_succ, List.set_cons_zero]
    apply wpK_val
    · rfl
    · intro w' hw'
      go_simp
      exact (lb_out (w := w') ((hw'.cell (p := ⟨g, 0, none⟩) (World.block_lt_of_cell? w1 _ p0)).trans p0) hps hmn).mono fun e w2 h => ⟨h.1, h.2 ▸ hw'⟩
    simp only [Act.put, List.setIfInBounds_toArray, List.set_cons_succ, List.set_cons_zero]
    apply wpK_val
    · rfl
    · intro w' hw'
      go_simp
      first | exact rfl | exact ⟨rfl, hw'⟩
    simp only [Act.put, List.setIfInBounds_toArray, List.set_cons_succ, List.set_cons_zero]
    apply wpK_val
    · rfl
    · intro w' hw'
      have hcell := (hw'.cell (p := ⟨gS, 4, none⟩) (World.block_lt_of_cell? w1 _ qn)).trans qn
      go_simp
      first | exact rfl | exact ⟨rfl, hw'⟩
    simp only [Act.put, List.setIfInBounds_toArray, List.set_cons_succ, List.set_cons_zero]
    intro w2 hC2
    have B2 := hid hC2
    clear hC2 p0 qm qi qn b1
    go_wp2_with fail
    refine (MbO.backN sn _).mono ?_
    rintro e w4 ⟨rfl, hb⟩
    have HO := hid (show outQ (RepK d) w g F (k + 1) { b with ms := if mem b.ms sm = true then b.ms.set sm.toNat (bkT (BuM.at' b.ms sm) sn) else b.ms } w4 from by
      rw [if_neg HM.out]
      exact outQ.behind BEL.out (H1.out.none (B2.out.trans (hb.mono B2.out.size))))
    clear hb H1
    go_wp2_with fail
    refine bodyPost_end (results_none rfl _ _ _) rfl ?_
    exact ⟨rfl, by have h9 := HO.out; rw [if_neg HM.out] at h9; exact h9⟩
set_option maxHeartbeats 600000 in
set_option maxRecDepth 100000 in
theorem lb_act4 (H : Pp (RepK d) w g F k b) (_hk : k ≤ 8000) (y : Stp × SlB) (hs : okS y.1) : Calls Tryz.prog 91 #[MbP.at' g, .agg (stL y).toArray] w fun e w' => e = .returned (.tuple #[]) ∧ outQ (RepK d) w g F (k + 1) { b with ms := if mem b.ms y.1.m then b.ms.set y.1.m.toNat (fail (BuM.at' b.ms y.1.m) true) else b.ms } w' := by
  obtain ⟨⟨sa, kd, sm, si, sn, sd, pk⟩, x⟩ := y
  have HH := hid H
  have HS := hid hs
  have hps := H.pos
  clear H hs
  unfold MbP.at'
  go_enter Tryz.func91, Tryz.ntmps91
  go_upto_region 1 with fail
  generalize hw1 : World.alloc w _ = w1
  obtain ⟨gS, hgS⟩ : ∃ n, n = w.heap.size := ⟨_, rfl⟩
  have b1 := hid (show Blk w1 gS 62 (stL (⟨sa, kd, sm, si, sn, sd, pk⟩, x)).toArray by rw [← hw1, hgS]; exact Blk.new _ _ _)
  have BEL := hid (show Below w.heap.size w w1 by rw [← hw1]; exact (Below.refl _ _).alloc (Nat.le_refl _) _)
  rw [← hgS]
  clear hw1 hgS
  have H1 := hid (HH.out.belowK BEL.out)
  have bw := b1.out.whole
  have qm : w1.cell? ⟨gS, 2, none⟩ = some (.int .i64 sm) := st_m (o := 0) bw
  have qi : w1.cell? ⟨gS, 3, none⟩ = some (.int .i64 si) := st_i (o := 0) bw
  have qn : w1.cell? ⟨gS, 4, none⟩ = some (.int .i64 sn) := st_n (o := 0) bw
  clear bw HH
  by_cases hm : mem b.ms sm = true
  · have HM := hid hm
    obtain ⟨mi, rfl, hmi⟩ := mem_nat hm
    obtain ⟨gi, st, A, c, bA, oA, h1, h2, h3, h4, h5, rfl, h7, _⟩ := H1.out.at hmi
    have R1 := hid h3
    have HGI := hid h1
    have hat : BuM.at' b.ms (mi : Int) = st := h4
    have HAT := hid hat
    have hok : st.ok := H1.out.ok.1 st (List.mem_of_getElem? h2)
    have HOK := hid hok
    clear hm h1 h2 h3 h4 hat hok
    go_wp2_with fail
    refine (lb_in h5 hps hmi h7).mono ?_
    rintro e w' ⟨rfl, rfl⟩
    have B2 := hid (Below.refl w1.heap.size w1)
    have H2 := H1
    have R2 := R1
    clear h5 h7 R1 qm qi qn b1 H1
    go_wp2_with fail
    refine (MbP.memB_ok.fail R2.out true).mono ?_
    rintro e w4 ⟨rfl, ho⟩
    have HO := hid (show outQ (RepK d) w g F (k + 1) { b with ms := if mem b.ms (mi : Int) = true then b.ms.set (mi : Int).toNat (fail (BuM.at' b.ms (mi : Int)) true) else b.ms } w4 from by
      rw [if_pos HM.out, HAT.out, Int.toNat_natCast]
      exact outQ.behind BEL.out (outQ.behind B2.out (Pp.put (repB := RepK d) (repK_fr d) H2.out HGI.out ho (Nat.le_succ _) (fa_ok HOK.out _))))
    clear ho H2 R2
    go_wp2_with fail
    refine bodyPost_end (results_none rfl _ _ _) rfl ?_
    exact ⟨rfl, by have h9 := HO.out; rw [if_pos HM.out, Int.toNat_natCast] at h9; exact h9⟩
  · have HM := hid hm
    obtain ⟨A, c, p0⟩ := H1.out.hd
    have hmn := mem_not hm
    clear hm
    go_wp2_with fail
    refine (lb_out p0 hps hmn).mono ?_
    rintro e w' ⟨rfl, rfl⟩
    have B2 := hid (Below.refl w1.heap.size w1)
    clear p0 qm qi qn b1
    go_wp2_with fail
    refine (lb_failN true _).mono ?_
    rintro e w4 ⟨rfl, hb⟩
    have HO := hid (show outQ (RepK d) w g F (k + 1) { b with ms := if mem b.ms sm = true then b.ms.set sm.toNat (fail (BuM.at' b.ms sm) true) else b.ms } w4 from by
      rw [if_neg HM.out]
      exact outQ.behind BEL.out (H1.out.none (B2.out.trans (hb.mono B2.out.size))))
    clear hb H1
    go_wp2_with fail
    refine bodyPost_end (results_none rfl _ _ _) rfl ?_
    exact ⟨rfl, by have h9 := HO.out; rw [if_neg HM.out] at h9; exact h9⟩
set_option maxHeartbeats 600000 in
set_option maxRecDepth 100000 in
theorem lb_act5 (H : Pp (RepK d) w g F k b) (_hk : k ≤ 8000) (y : Stp × SlB) (hs : okS y.1) : Calls Tryz.prog 93 #[MbP.at' g, .agg (stL y).toArray] w fun e w' => e = .returned (.tuple #[]) ∧ outQ (RepK d) w g F (k + 1) { b with ms := if mem b.ms y.1.m then b.ms.set y.1.m.toNat (fail (BuM.at' b.ms y.1.m) false) else b.ms } w' := by
  obtain ⟨⟨sa, kd, sm, si, sn, sd, pk⟩, x⟩ := y
  have HH := hid H
  have HS := hid hs
  have hps := H.pos
  clear H hs
  unfold MbP.at'
  go_enter Tryz.func93, Tryz.ntmps93
  go_upto_region 1 with fail
  generalize hw1 : World.alloc w _ = w1
  obtain ⟨gS, hgS⟩ : ∃ n, n = w.heap.size := ⟨_, rfl⟩
  have b1 := hid (show Blk w1 gS 62 (stL (⟨sa, kd, sm, si, sn, sd, pk⟩, x)).toArray by rw [← hw1, hgS]; exact Blk.new _ _ _)
  have BEL := hid (show Below w.heap.size w w1 by rw [← hw1]; exact (Below.refl _ _).alloc (Nat.le_refl _) _)
  rw [← hgS]
  clear hw1 hgS
  have H1 := hid (HH.out.belowK BEL.out)
  have bw := b1.out.whole
  have qm : w1.cell? ⟨gS, 2, none⟩ = some (.int .i64 sm) := st_m (o := 0) bw
  have qi : w1.cell? ⟨gS, 3, none⟩ = some (.int .i64 si) := st_i (o := 0) bw
  have qn : w1.cell? ⟨gS, 4, none⟩ = some (.int .i64 sn) := st_n (o := 0) bw
  clear bw HH
  by_cases hm : mem b.ms sm = true
  · have HM := hid hm
    obtain ⟨mi, rfl, hmi⟩ := mem_nat hm
    obtain ⟨gi, st, A, c, bA, oA, h1, h2, h3, h4, h5, rfl, h7, _⟩ := H1.out.at hmi
    have R1 := hid h3
    have HGI := hid h1
    have hat : BuM.at' b.ms (mi : Int) = st := h4
    have HAT := hid hat
    have hok : st.ok := H1.out.ok.1 st (List.mem_of_getElem? h2)
    have HOK := hid hok
    clear hm h1 h2 h3 h4 hat hok
    go_wp2_with fail
    refine (lb_in h5 hps hmi h7).mono ?_
    rintro e w' ⟨rfl, rfl⟩
    have B2 := hid (Below.refl w1.heap.size w1)
    have H2 := H1
    have R2 := R1
    clear h5 h7 R1 qm qi qn b1 H1
    go_wp2_with fail
    refine (MbP.memB_ok.fail R2.out false).mono ?_
    rintro e w4 ⟨rfl, ho⟩
    have HO := hid (show outQ (RepK d) w g F (k + 1) { b with ms := if mem b.ms (mi : Int) = true then b.ms.set (mi : Int).toNat (fail (BuM.at' b.ms (mi : Int)) false) else b.ms } w4 from by
      rw [if_pos HM.out, HAT.out, Int.toNat_natCast]
      exact outQ.behind BEL.out (outQ.behind B2.out (Pp.put (repB := RepK d) (repK_fr d) H2.out HGI.out ho (Nat.le_succ _) (fa_ok HOK.out _))))
    clear ho H2 R2
    go_wp2_with fail
    refine bodyPost_end (results_none rfl _ _ _) rfl ?_
    exact ⟨rfl, by have h9 := HO.out; rw [if_pos HM.out, Int.toNat_natCast] at h9; exact h9⟩
  · have HM := hid hm
    obtain ⟨A, c, p0⟩ := H1.out.hd
    have hmn := mem_not hm
    clear hm
    go_wp2_with fail
    refine (lb_out p0 hps hmn).mono ?_
    rintro e w' ⟨rfl, rfl⟩
    have B2 := hid (Below.refl w1.heap.size w1)
    clear p0 qm qi qn b1
    go_wp2_with fail
    refine (lb_failN false _).mono ?_
    rintro e w4 ⟨rfl, hb⟩
    have HO := hid (show outQ (RepK d) w g F (k + 1) { b with ms := if mem b.ms sm = true then b.ms.set sm.toNat (fail (BuM.at' b.ms sm) false) else b.ms } w4 from by
      rw [if_neg HM.out]
      exact outQ.behind BEL.out (H1.out.none (B2.out.trans (hb.mono B2.out.size))))
    clear hb H1
    go_wp2_with fail
    refine bodyPost_end (results_none rfl _ _ _) rfl ?_
    exact ⟨rfl, by have h9 := HO.out; rw [if_neg HM.out] at h9; exact h9⟩
set_option maxRecDepth 100000 in
theorem lb_act6 (H : Pp (RepK d) w g F k b) (hk : k ≤ 8000) (y : Stp × SlB) (HP : Arg w y.2.A y.1.picks y.1.picks.length y.2.c) (hpm : y.1.picks.length ≤ 140737488351232) (hPS : ∀ q o, 0 < y.1.picks.length → y.2.A = some ⟨q, o, none⟩ → ¬ mutP F q ∧ q < w.heap.size) :
    Calls Tryz.prog 94 #[MbP.at' g, .agg (stL y).toArray] w fun e w' => e = .returned (.tuple #[]) ∧ outQ (RepK d) w g F (k + 1) { b with ms := crashAll b.ms y.1.picks, off := true } w' := by
  obtain ⟨⟨sa, kd, sm, si, sn, sd, pk⟩, x⟩ := y
  have HH := hid H
  have HA := hid HP
  have HS := hid hPS
  have hpm' : pk.length ≤ 140737488351232 := hpm
  clear H HP hPS hpm
  unfold MbP.at'
  go_enter Tryz.func94, Tryz.ntmps94
  go_upto_region 1 with fail
  generalize hw1 : World.alloc w _ = w1
  obtain ⟨gS, hgS⟩ : ∃ n, n = w.heap.size := ⟨_, rfl⟩
  have b1 := hid (show Blk w1 gS 62 (stL (⟨sa, kd, sm, si, sn, sd, pk⟩, x)).toArray by rw [← hw1, hgS]; exact Blk.new _ _ _)
  have BEL := hid (show Below w.heap.size w w1 by rw [← hw1]; exact (Below.refl _ _).alloc (Nat.le_refl _) _)
  rw [← hgS]
  clear hw1 hgS
  have H1 := hid (HH.out.belowK BEL.out)
  have A1 := hid (HA.out.on BEL.out)
  have qp : w1.cell? ⟨gS, 69, none⟩ = some (.slice x.A pk.length x.c) := st_p (o := 0) (x := (⟨sa, kd, sm, si, sn, sd, pk⟩, x)) b1.out.whole
  clear HH HA b1
  go_wp2_with fail
  refine (lb_crash H1.out hk A1.out hpm' fun q o h1 h2 => ⟨(HS.out q o h1 h2).1, Nat.lt_of_lt_of_le (HS.out q o h1 h2).2 BEL.out.size⟩).mono ?_
  rintro e w4 ⟨rfl, ho⟩
  have HO := hid ((outQ.behind BEL.out ho).mono (Nat.le_succ _))
  clear ho H1 A1 qp
  go_wp2_with fail
  refine bodyPost_end (results_none rfl _ _ _) rfl ?_
  exact ⟨rfl, HO.out⟩
end
end BuP
end Go.Proofs.YthogklchmhjjkaaGreat
set_option maxRecDepth 100000
namespace Go.Proofs.YthogklchmhjjkaaGreat
open Go.ChangeShapes Go.WideShapes Go.ChangeAt Go.RowKit
attribute [local go_sem] Gives GivesE
namespace BuP
open BuM MbM MbP MpV
def fnV (f : FuncId) : Value := .func (.func f) #[] #[]
def acV : Array Value := #[.nilFunc, fnV 85, fnV 87, fnV 89, fnV 91, fnV 93, fnV 94]
theorem und_ac : Tryz.prog.underlying 145 = some (.slice 147) := Tryz.underlying145
theorem run_acts (w : World) : (Instr.buildSlice 145 7 #[(1, fnV 85), (2, fnV 87), (3, fnV 89), (4, fnV 91), (5, fnV 93), (6, fnV 94)]).run Tryz.prog w =
    .ok (.slice (some ⟨w.heap.size, 0, none⟩) 7 7) (w.alloc (.cells acV 147)) := by
  have h1 : (Tryz.prog.info? 147).map (·.size) = some 1 := by kernel_rfl
  have h3 : (Tryz.prog.info? 147).bind (·.zero) = some .nilFunc := by kernel_rfl
  cases hi : Tryz.prog.info? 147 with
  | none => rw [hi] at h1; cases h1
  | some i =>
    rw [hi] at h1 h3
    simp only [Option.map_some, Option.some.injEq, Option.bind_some] at h1 h3
    exact run_buildSlice w _ _ 7 _ _ i _ und_ac hi h3 (by rw [h1]; omega) (by rw [h1]; omega) (by rw [h1]; kernel_rfl)
section
variable {ops : Array Oper} {Q : Exit → Act → World → Prop} {a : Act} {w : World} {rest : List Oper} {dst : Option Tmp} {ty : TypeId} {pos : String} {after : Array Edge} {m x : Operand} {r : Nat} {i : Int} {F : MpV.Img}
theorem wacts (h : wpList Tryz.prog ops Q rest (a.put dst (.slice (some ⟨w.heap.size, 0, none⟩) 7 7)) (w.alloc (.cells acV 147))) :
    wpList Tryz.prog ops Q (⟨dst, .buildSlice 145 7 #[(1, .func 85), (2, .func 87), (3, .func 89), (4, .func 91), (5, .func 93), (6, .func 94)], ty, pos, after, none⟩ :: rest) a w := by
  refine wpList_plain rfl fun K hK => ?_
  unfold Oper.wp execOp
  have hr := run_acts w
  unfold fnV at hr
  simp only [Sem.run_bind, List.map_toArray, List.map_cons, List.map_nil, Act.eval, hr, Result.andThen_ok, Sem.run_pure]
  exact hK _ _ h
theorem wlookV (hm : a.eval m = .map (some r)) (hx : a.eval x = .int .i64 i) (hF : MapV w r F) (h : wpList Tryz.prog ops Q rest (a.put dst (F i)) w) :
    wpList Tryz.prog ops Q (⟨dst, .lookup 104 m x false, ty, pos, after, none⟩ :: rest) a w := by
  refine wpList_plain rfl fun K hK => ?_
  unfold Oper.wp execOp
  simp only [Sem.run_bind, hm, hx, MpV.run_look hF i, Result.andThen_ok, Sem.run_pure]
  exact hK _ _ h
theorem wdelV (hm : a.eval m = .map (some r)) (hx : a.eval x = .int .i64 i) (hF : MapV w r F) (h : ∀ w', MapV w' r (MpV.upd F i MpV.zero) → Turn (fun b => b = r) w w' → wpList Tryz.prog ops Q rest (a.put dst (.tuple #[])) w') :
    wpList Tryz.prog ops Q (⟨dst, .call { callee := .builtin .delete, args := #[m, x], argTypes := #[104, 3] }, ty, pos, after, none⟩ :: rest) a w := by
  obtain ⟨w', hr, h1, h2⟩ := MpV.run_del (ty := ty) hF i
  refine wpList_plain rfl fun K hK => ?_
  unfold Oper.wp execOp
  simp only [resolve, invoke, builtin, Sem.run_bind, Sem.run_pure, Result.andThen_ok, List.map_toArray, List.map_cons, List.map_nil, hm, hx, hr]
  exact hK _ _ (h w' h1 h2)
end
theorem lb_acts (w : World) : Calls Tryz.prog 84 #[] w fun e w' => ∃ gA, e = .returned (.slice (some ⟨gA, 0, none⟩) 7 7) ∧ Blk w' gA 147 acV ∧ w.heap.size ≤ gA ∧ Below w.heap.size w w' := by
  go_enter Tryz.func84, Tryz.ntmps84
  go_wp2_with (with_reducible apply wacts)
  go_ret
  exact ⟨_, rfl, Blk.new _ _ _, Nat.le_refl _, (Below.refl _ _).alloc (Nat.le_refl _) _⟩
theorem lb_setAt {l : List St} {m : Int} : l.set m.toNat (BuM.at' l m) = l := by
  unfold BuM.at'
  apply List.ext_getElem?
  intro j
  by_cases e : m.toNat = j
  · subst e
    by_cases h : m.toNat < l.length
    · rw [List.getElem?_set_self h, List.getD_eq_getElem?_getD, List.getElem?_eq_getElem h]; rfl
    · rw [List.getElem?_eq_none (by rw [List.length_set]; omega), List.getElem?_eq_none (by omega)]
  · rw [List.getElem?_set_ne e]
theorem hand_odd {now : Nat} {s : Stp} {x : List St × Bool} (h : ¬ (1 ≤ s.kind ∧ s.kind < 7)) : hand now s x = x := by
  unfold hand
  split
  · rw [if_neg (by omega)]
    split
    · have : deed s (BuM.at' x.1 s.m) = BuM.at' x.1 s.m := by
        unfold deed
        rw [if_neg (by omega), if_neg (by omega), if_neg (by omega), if_neg (by omega), if_neg (by omega)]
      rw [this, lb_setAt]
    · rfl
  · rfl
/-- What is done by each kind of step. -/
theorem lb_act {w : World} {d g k : Nat} {F : Fq} {b : Bs} (H : Pp (RepK d) w g F k b) (hk : k ≤ 8000) (y : Stp × SlB) (hs : okS y.1) (HP : Arg w y.2.A y.1.picks y.1.picks.length y.2.c) (hpm : y.1.picks.length ≤ 140737488351232) (hPS : ∀ q o, 0 < y.1.picks.length → y.2.A = some ⟨q, o, none⟩ → ¬ mutP F q ∧ q < w.heap.size)
    {now : Nat} (ha : y.1.a = (now : Int)) {kd : Nat} (hkd : y.1.kind = (kd : Int)) (h1 : 1 ≤ kd) (h7 : kd < 7) :
    ∃ f, acV[kd]? = some (.func (.func f) #[] #[]) ∧ (∀ args w, (callFunc f args).run Tryz.prog w = .ok (.enter f args) w) ∧
      Calls Tryz.prog f #[MbP.at' g, .agg (stL y).toArray] w fun e w' => e = .returned (.tuple #[]) ∧ outQ (RepK d) w g F (k + 1) { b with ms := (hand now y.1 (b.ms, b.off)).1, off := (hand now y.1 (b.ms, b.off)).2 } w' := by
  have hh : ∀ st' : St → St, ¬ kd = 6 → (∀ st, deed y.1 st = st' st) → ({ b with ms := (hand now y.1 (b.ms, b.off)).1, off := (hand now y.1 (b.ms, b.off)).2 } : Bs) = { b with ms := if mem b.ms y.1.m then b.ms.set y.1.m.toNat (st' (BuM.at' b.ms y.1.m)) else b.ms } := fun st' h6 hd => by
    unfold hand
    rw [if_pos ha, if_neg (by omega)]
    split <;> simp only [hd]
  have hc : kd = 1 ∨ kd = 2 ∨ kd = 3 ∨ kd = 4 ∨ kd = 5 ∨ kd = 6 := by omega
  rcases hc with rfl | rfl | rfl | rfl | rfl | rfl
  · refine ⟨_, rfl, fun args w => by simp [callFunc, Tryz.func85, Tryz.f85], (lb_act1 H hk y hs).mono fun e w' h => ⟨h.1, ?_⟩⟩
    rw [hh (fun st => seT st y.1.i y.1.s) (by omega) fun st => by unfold deed; rw [if_pos (show y.1.kind = 1 from hkd)]]
    exact h.2
  · refine ⟨_, rfl, fun args w => by simp [callFunc, Tryz.func87, Tryz.f87], (lb_act2 H hk y hs).mono fun e w' h => ⟨h.1, ?_⟩⟩
    rw [hh (fun st => mkT st) (by omega) fun st => by unfold deed; rw [if_neg (by omega), if_pos (show y.1.kind = 2 from hkd)]]
    exact h.2
  · refine ⟨_, rfl, fun args w => by simp [callFunc, Tryz.func89, Tryz.f89], (lb_act3 H hk y hs).mono fun e w' h => ⟨h.1, ?_⟩⟩
    rw [hh (fun st => bkT st y.1.n) (by omega) fun st => by unfold deed; rw [if_neg (by omega), if_neg (by omega), if_pos (show y.1.kind = 3 from hkd)]]
    exact h.2
  · refine ⟨_, rfl, fun args w => by simp [callFunc, Tryz.func91, Tryz.f91], (lb_act4 H hk y hs).mono fun e w' h => ⟨h.1, ?_⟩⟩
    rw [hh (fun st => fail st true) (by omega) fun st => by unfold deed; rw [if_neg (by omega), if_neg (by omega), if_neg (by omega), if_pos (show y.1.kind = 4 from hkd)]]
    exact h.2
  · refine ⟨_, rfl, fun args w => by simp [callFunc, Tryz.func93, Tryz.f93], (lb_act5 H hk y hs).mono fun e w' h => ⟨h.1, ?_⟩⟩
    rw [hh (fun st => fail st false) (by omega) fun st => by unfold deed; rw [if_neg (by omega), if_neg (by omega), if_neg (by omega), if_neg (by omega), if_pos (show y.1.kind = 5 from hkd)]]
    exact h.2
  · refine ⟨_, rfl, fun args w => by simp [callFunc, Tryz.func94, Tryz.f94], (lb_act6 H hk y HP hpm hPS).mono fun e w' h => ⟨h.1, ?_⟩⟩
    have : hand now y.1 (b.ms, b.off) = (crashAll b.ms y.1.picks, true) := by unfold hand; rw [if_pos ha, if_pos (show y.1.kind = 6 from hkd)]
    rw [this]
    exact h.2
end BuP
end Go.Proofs.YthogklchmhjjkaaGreat
set_option maxRecDepth 100000
namespace Go.Proofs.YthogklchmhjjkaaGreat
open Go.ChangeShapes Go.WideShapes Go.ChangeAt Go.RowKit
attribute [local go_sem] Gives GivesE
namespace BuP
open BuM MbM MbP MpV
def stP0 : Stp × SlB := (⟨0, 0, 0, 0, 0, fun _ => 0, []⟩, ⟨none, 0⟩)
theorem zStP (w : World) : (zeroValue 62).run Tryz.prog w = .ok (.agg (stL stP0).toArray) w := (zero_of_info (P := Tryz.prog) (t := 62) (v := .agg (stL stP0).toArray) (n := 70) (by kernel_rfl)).1 w
theorem stP_size (x y : Stp × SlB) : (stL x).toArray.size = (stL y).toArray.size := by rw [List.size_toArray, List.size_toArray, stL_len, stL_len]
theorem stP_one (x : Stp × SlB) : (stL x).toArray.all (·.oneCell') = true := by
  rw [Array.all_eq_true_iff_forall_mem]
  intro u hu
  exact stL_one x u (by simpa using hu)
theorem hands_filter (now : Nat) : ∀ (l : List Stp) (x : List St × Bool), hands now (l.filter fun s => decide (s.a = (now : Int))) x = hands now l x
  | [], _ => rfl
  | s :: l, x => by
    rw [hands_cons, List.filter_cons]
    by_cases e : s.a = (now : Int)
    · rw [if_pos (by simpa using e), hands_cons, hands_filter now l]
    · rw [if_neg (by simpa using e), hands_filter now l]
      unfold hand
      rw [if_neg e]
theorem repK_struck {w w' : World} {g gc c r : Nat} {gs : List Nat} {A : Option Addr} {vl : Value} {Fm : MpV.Img} {S : Nat → Prop} {steps : List Stp} {off : Bool} {log : List BuM.Ent} (K : Sk 0 w g gs gc A c r vl Fm S steps off log) (hM : MapV w' r (MpV.upd Fm (log.length : Nat) MpV.zero)) (ht : Turn (fun b => b = r) w w') (hS : ¬ S r) :
    Sk 1 w' g gs gc A c r vl (MpV.upd Fm (log.length : Nat) MpV.zero) S steps off log where
  blk := K.blk.turn ht K.g_r
  pos := K.pos
  arr := K.arr.turn ht fun q hq _ e => hS (e ▸ hq)
  map := hM
  due n hn := by
    have : MpV.upd Fm (log.length : Nat) MpV.zero (n : Nat) = Fm (n : Nat) := by
      unfold MpV.upd
      rw [if_neg (by omega)]
    rw [this]
    exact (K.due n (by omega)).turn ht fun q hq e => hS (e ▸ hq)
  lg := K.lg.turn ht fun b e e2 => K.l_r (by rw [e, e2])
  slt q hq := Nat.lt_of_lt_of_le (K.slt q hq) ht.size
section
variable {w : World} {g k : Nat} {F : Fq} {b : Bs}
set_option maxHeartbeats 2000000 in
set_option maxRecDepth 100000 in
theorem lb_steps (H : Pp (RepK 0) w g F k b) (hk : k + b.steps.length ≤ 8000) : Calls Tryz.prog 81 #[MbP.at' g] w fun e w' => e = .returned (.tuple #[]) ∧ outQ (RepK 1) w g F (k + b.steps.length) (BuM.ahead b) w' := by
  have HH := hid H
  obtain ⟨A, c, r, vl, Fm, K, hMo⟩ := H.skel
  obtain ⟨Al, cl, rfl, _⟩ := K.lg.sli enL_len
  have p2 := pb_mp K.blk
  have p3 := pb_lg K.blk
  have MV := hid K.map
  obtain ⟨now, hnow⟩ : ∃ x, x = b.log.length := ⟨_, rfl⟩
  have HN := hid hnow
  obtain ⟨L, Ad, cd, hF, hL, sl, hL2⟩ := K.due now (by omega)
  have LL := hid hL
  have SLi := hid sl
  have LP := hid hL2
  have HF0 := hid hF
  have hLs : L.length ≤ b.steps.length := by have := congrArg List.length hL; rw [List.length_map] at this; rw [this]; exact List.length_filter_le _ _
  have hF' : Fm (now : Int) = .slice Ad L.length cd := by rw [hF, ← hL, List.length_map]
  have hsz := H.sz.2.1
  have HFF := hid hF'
  rw [← hnow] at p3
  clear K H hF hL sl hL2 hMo hnow
  unfold MbP.at'
  go_enter Tryz.func81, Tryz.ntmps81
  go_wp2_with ((with_reducible apply wlookV); rfl; rfl; exact MV.out; rw [hF'])
  clear p2 p3 hF'
  go_loopw [18] (fun u18 wr => ∃ (j : Nat) (F' : Fq) (ms' : List St) (off' : Bool), u18 = .int .i64 j ∧ j ≤ L.length ∧ Hid (hands now ((L.map (·.1)).take j) (b.ms, b.off) = (ms', off')) ∧ Hid (Pp (RepK 0) wr g F' (k + j) { b with ms := ms', off := off' }) ∧
    Hid (F'.gs = F.gs ∧ F'.gc = F.gc ∧ (∀ q, mutP F' q → mutP F q ∨ w.heap.size ≤ q) ∧ (∀ q, rdP F' q → mutP F q ∨ rdP F q ∨ w.heap.size ≤ q) ∧ Turn (mutP F) w wr)) (fun u18 _ => L.length - (intOf u18).toNat)
  case atStart => exact ⟨0, F, b.ms, b.off, rfl, Nat.zero_le _, hid rfl, HH, hid ⟨rfl, rfl, fun _ e => .inl e, fun _ e => .inr (.inl e), Turn.refl _ _⟩⟩
  case round =>
    obtain ⟨j, F', ms', off', rfl, hj, HE, HP, HF⟩ := hrel
    obtain ⟨wo, hwo⟩ : ∃ x, x = wr := ⟨_, rfl⟩
    subst hwo
    by_cases hjn : j < L.length
    · have t1 : (j : Int) < (L.length : Int) := by omega
      obtain ⟨y, hy⟩ : ∃ y, L[j]? = some y := ⟨_, List.getElem?_eq_getElem hjn⟩
      have HY := hid hy
      obtain ⟨bS, oS, rfl, hbS, hSl, hr⟩ := SLi.out.some hy
      have R1 := hid (HF.out.2.2.2.2.range hr fun e => HH.out.sep bS (.inl hbS) e)
      clear hr hy
      go_upto_region 4 with (first | ((with_reducible apply ldR (cs := (stL y).toArray) (tStP y)); rfl; exact R1.out) | (with_reducible apply alZ' zStP) | ((with_reducible apply stR (tStP y)); rfl; rfl; exact Blk.new _ _ _; exact stP_size _ _; exact stP_one _))
      generalize hw1 : World.setRow _ _ _ = w1
      obtain ⟨gS, hgS⟩ : ∃ n, n = wo.heap.size := ⟨_, rfl⟩
      have B1 := hid (show Below wo.heap.size wo w1 by rw [← hw1]; exact below_setRow ((Below.refl _ _).alloc (Nat.le_refl _) _) (Nat.le_refl _) _)
      have b1 := hid (show Blk w1 gS 62 (stL y).toArray by rw [← hw1, hgS]; exact (Blk.new wo _ _).setRow_same _)
      rw [← hgS]
      clear hw1 hgS R1
      go_wp2_with fail
      refine (lb_acts _).mono ?_
      rintro e w2 ⟨gA, rfl, bA, hgA, hB2⟩
      have BA := hid bA
      have B2 := hid (B1.out.trans (hB2.mono B1.out.size))
      have b2 := hid (b1.out.below hB2 b1.out.lt)
      have A2 := hid (HP.out.belowK B2.out)
      have hm := hid (List.mem_of_getElem? HY.out)
      have hsy := hid (show y.1 ∈ b.steps ∧ y.1.a = (now : Int) from by
        have h3 : y.1 ∈ L.map (·.1) := List.mem_map.2 ⟨y, hm.out, rfl⟩
        rw [LL.out, List.mem_filter] at h3
        exact ⟨h3.1, by simpa using h3.2⟩)
      have qk : w2.cell? ⟨gS, 1, none⟩ = some (.int .i64 y.1.kind) := st_k (o := 0) (x := y) b2.out.whole
      clear bA hB2 B1 b1 HP
      by_cases hv : 1 ≤ y.1.kind ∧ y.1.kind < 7
      · obtain ⟨kd, hkd⟩ : ∃ kd : Nat, y.1.kind = kd := Int.eq_ofNat_of_zero_le (by omega)
        have HK := hid hkd
        rw [hkd] at qk
        have hk1 : 1 ≤ kd := by omega
        have hk7 : kd < 7 := by omega
        have t2 : decide ((1 : Int) ≤ (kd : Int)) = true := by simp; omega
        have t3 : decide ((kd : Int) < 7) = true := by simp; omega
        have t4 : (kd : Int) < 7 := by omega
        clear hkd hv
        go_upto_region 6 with fail
        obtain ⟨f, hfa, hcf, hdo⟩ : ∃ f, acV[kd]? = some (.func (.func f) #[] #[]) ∧ (∀ args w, (callFunc f args).run Tryz.prog w = .ok (.enter f args) w) ∧ ∀ w3, Below w2.heap.size w2 w3 → Calls Tryz.prog f #[MbP.at' g, .agg (stL y).toArray] w3 fun e w' => e = .returned (.tuple #[]) ∧ outQ (RepK 0) w3 g F' (k + j + 1) { b with ms := (hand now y.1 (ms', off')).1, off := (hand now y.1 (ms', off')).2 } w' := by
          have lp := LP.out y hm.out
          have hT : ∀ q, F.Io q → ¬ mutP F' q := fun q e x => (HF.out.2.2.1 q x).elim (HH.out.sep q (.inl e)) fun z => by have := HH.out.olt q (.inr e); omega
          have hg : ∀ w3, Below w2.heap.size w2 w3 → Arg w3 y.2.A y.1.picks y.1.picks.length y.2.c ∧ ∀ q o, 0 < y.1.picks.length → y.2.A = some ⟨q, o, none⟩ → ¬ mutP F' q ∧ q < w3.heap.size := fun w3 hb3 => by
            have h1 := lp.1.turn HF.out.2.2.2.2 fun q o e1 e2 => HH.out.sep q (.inl (lp.2 q o e1 e2))
            exact ⟨(h1.on B2.out).on hb3, fun q o e1 e2 => ⟨hT q (lp.2 q o e1 e2), Nat.lt_of_lt_of_le (HH.out.olt q (.inr (lp.2 q o e1 e2))) (Nat.le_trans HF.out.2.2.2.2.size (Nat.le_trans B2.out.size hb3.size))⟩⟩
          have hok := HH.out.ok.2 y.1 hsy.out.1
          have hpl := HH.out.sz.2.2.2.2 y.1 hsy.out.1
          obtain ⟨h1, h2⟩ := hg w2 (Below.refl _ _)
          obtain ⟨f, e1, e2, _⟩ := lb_act A2.out (by omega) y hok h1 hpl h2 hsy.out.2 HK.out hk1 hk7
          refine ⟨f, e1, e2, fun w3 hb3 => ?_⟩
          obtain ⟨h1, h2⟩ := hg w3 hb3
          obtain ⟨f', e1', e2', h3⟩ := lb_act (A2.out.belowK hb3) (by omega) y hok h1 hpl h2 hsy.out.2 HK.out hk1 hk7
          rw [e1] at e1'
          cases e1'
          exact h3
        have qf : w2.cell? ⟨gA, kd, none⟩ = some (.func (.func f) #[] #[]) := by rw [BA.out.cell]; exact hfa
        have HDO := hid hdo
        clear hfa hdo
        refine wp_region_tail (C := fun w' => Below w2.heap.size w2 w') 7 (by kernel_rfl) (by kernel_rfl) (by kernel_rfl) (Below.refl _ _).drew ?_
        simp only [List.take_succ_cons, List.take_zero, List.drop_succ_cons, List.drop_zero]
        apply wpK_val
        · rfl
        · intro w' hw'
          go_simp
          first | exact rfl | exact ⟨rfl, hw'⟩
        simp only [Act.put, List.setIfInBounds_toArray, List.set_cons_succ, List.set_cons_zero]
        apply wpK_val
        · rfl
        · intro w' hw'
          go_simp
          first | exact rfl | exact ⟨rfl, hw'⟩
        simp only [Act.put, List.setIfInBounds_toArray, List.set_cons_succ, List.set_cons_zero]
        apply wpK_val
        · rfl
        · intro w' hw'
          have hcell := (hw'.cell (p := ⟨gS, 1, none⟩) (World.block_lt_of_cell? w2 _ qk)).trans qk
          go_simp
          first | exact rfl | exact ⟨rfl, hw'⟩
        simp only [Act.put, List.setIfInBounds_toArray, List.set_cons_succ, List.set_cons_zero]
        apply wpK_val
        · rfl
        · intro w' hw'
          go_simp
          first | exact rfl | exact ⟨rfl, hw'⟩
        simp only [Act.put, List.setIfInBounds_toArray, List.set_cons_succ, List.set_cons_zero]
        apply wpK_val
        · rfl
        · intro w' hw'
          have hcell := (hw'.cell (p := ⟨gA, kd, none⟩) (World.block_lt_of_cell? w2 _ qf)).trans qf
          go_simp
          first | exact rfl | exact ⟨rfl, hw'⟩
        simp only [Act.put, List.setIfInBounds_toArray, List.set_cons_succ, List.set_cons_zero]
        apply wpK_val
        · rfl
        · intro w' hw'
          go_simp
          first | exact rfl | exact ⟨rfl, hw'⟩
        simp only [Act.put, List.setIfInBounds_toArray, List.set_cons_succ, List.set_cons_zero]
        apply kldR (cs := (stL y).toArray) (tStP y)
        · rfl
        · rfl
        · exact fun w' hw' => (b2.out.below hw' b2.out.lt).whole
        simp only [Act.put, List.setIfInBounds_toArray, List.set_cons_succ, List.set_cons_zero]
        intro w3 hC3
        have H3 := hid (HDO.out w3 hC3)
        have B3 := hid hC3
        clear hC3 qk qf HDO b2
        go_wp2_with fail
        refine H3.out.mono ?_
        rintro e w4 ⟨rfl, ho⟩
        obtain ⟨F2, hP4, e1, e2, e3, e4, e5⟩ := ho
        have PP4 := hid (show Pp (RepK 0) w4 g F2 (k + (j + 1)) { b with ms := (hand now y.1 (ms', off')).1, off := (hand now y.1 (ms', off')).2 } from hP4)
        have F4 := hid (show F2.gs = F.gs ∧ F2.gc = F.gc ∧ (∀ q, mutP F2 q → mutP F q ∨ w.heap.size ≤ q) ∧ (∀ q, rdP F2 q → mutP F q ∨ rdP F q ∨ w.heap.size ≤ q) ∧ Turn (mutP F) w w4 from by
          obtain ⟨f1, f2, f3, f4, f5⟩ := HF.out
          have hb := B2.out.trans (B3.out.mono B2.out.size)
          have hsz := f5.size
          have hs2 := hb.size
          refine ⟨e1.trans f1, e2.trans f2, fun q e => ?_, fun q e => ?_, (f5.trans (Turn.of_new (S := fun _ => False) hb) fun _ e => e.elim).trans e5 f3⟩
          · rcases e3 q e with y | y
            · exact f3 q y
            · exact .inr (by omega)
          · rcases e4 q e with y | y | y
            · exact (f3 q y).imp id .inr
            · exact f4 q y
            · exact .inr (.inr (by omega)))
        have HE4 := hid (show hands now ((L.map (·.1)).take (j + 1)) (b.ms, b.off) = ((hand now y.1 (ms', off')).1, (hand now y.1 (ms', off')).2) from by
          rw [List.take_add_one, List.getElem?_map, HY.out, Option.map_some, Option.toList_some, hands_snoc, HE.out])
        clear hP4 e1 e2 e3 e4 e5 H3 A2 B2 B3 HE HF BA
        go_wp2_with fail
        go_roundw
        case rel => exact ⟨j + 1, F2, _, _, by go_num, by omega, HE4, PP4, F4⟩
        case measure => simp [intOf] <;> omega
      · have PP4 := hid (show Pp (RepK 0) w2 g F' (k + (j + 1)) { b with ms := ms', off := off' } from A2.out.mono (by omega))
        have HE4 := hid (show hands now ((L.map (·.1)).take (j + 1)) (b.ms, b.off) = (ms', off') from by
          rw [List.take_add_one, List.getElem?_map, HY.out, Option.map_some, Option.toList_some, hands_snoc, HE.out, hand_odd hv])
        have F4 := hid (show F'.gs = F.gs ∧ F'.gc = F.gc ∧ (∀ q, mutP F' q → mutP F q ∨ w.heap.size ≤ q) ∧ (∀ q, rdP F' q → mutP F q ∨ rdP F q ∨ w.heap.size ≤ q) ∧ Turn (mutP F) w w2 from by
          obtain ⟨f1, f2, f3, f4, f5⟩ := HF.out
          exact ⟨f1, f2, f3, f4, f5.trans (Turn.of_new (S := fun _ => False) B2.out) fun _ e => e.elim⟩)
        obtain ⟨kd, hkd⟩ : ∃ kd, kd = y.1.kind := ⟨_, rfl⟩
        rw [← hkd] at qk hv
        clear hkd A2 B2 HE HF BA b2 hm hsy HY
        by_cases h1 : 1 ≤ kd
        · have t2 : decide ((1 : Int) ≤ kd) = true := by simp; omega
          have t3 : decide (kd < 7) = false := by simp; omega
          go_wp2_with fail
          go_roundw
          case rel => exact ⟨j + 1, F', _, _, by go_num, by omega, HE4, PP4, F4⟩
          case measure => simp [intOf] <;> omega
        · have t2 : decide ((1 : Int) ≤ kd) = false := by simp; omega
          go_wp2_with fail
          go_roundw
          case rel => exact ⟨j + 1, F', _, _, by go_num, by omega, HE4, PP4, F4⟩
          case measure => simp [intOf] <;> omega
    · have t1 : decide ((j : Int) < (L.length : Int)) = false := by simp; omega
      obtain rfl : j = L.length := by omega
      have hah : hands b.log.length b.steps (b.ms, b.off) = (ms', off') := by
        have h1 := HE.out
        rw [List.take_of_length_le (by rw [List.length_map]; exact Nat.le_refl _), LL.out, hands_filter, HN.out] at h1
        exact h1
      have hP := HP.out
      obtain ⟨A', c', r', vl', Fm', K', hMo'⟩ := hP.skel
      have hS : ¬ F'.Io r' := fun e => hP.sep r' (.inl e) (.inl (by rw [hMo']; exact .inr (.inl rfl)))
      have p2 := pb_mp K'.blk
      have MV' := hid K'.map
      have HO := hid (show ∀ w9, MapV w9 r' (MpV.upd Fm' (now : Int) MpV.zero) → Turn (fun b => b = r') wo w9 → outQ (RepK 1) w g F (k + b.steps.length) (BuM.ahead b) w9 from fun w9 hM ht => by
        have hl : now = b.log.length := HN.out
        rw [hl] at hM
        have h5 : outQ (RepK 1) wo g F' (k + b.steps.length) { { b with ms := ms', off := off' } with off := off', log := b.log } w9 :=
          hP.own (Mo' := F'.Mo) ⟨_, _, _, _, _, repK_struck K' hM ht hS, hMo'⟩ (ht.mono fun q e => by rw [hMo']; exact .inr (.inl e)) (fun q e => .inl e) (fun q e => Nat.lt_of_lt_of_le (hP.olt q (.inl e)) ht.size) (by omega) (Nat.le_trans hP.sz.2.2.2.1 (by omega))
        obtain ⟨f1, f2, f3, f4, f5⟩ := HF.out
        have h6 := outQ.trans f1 f2 f3 f4 f5 h5
        have h7 : BuM.ahead b = { { b with ms := ms', off := off' } with off := off', log := b.log } := by unfold BuM.ahead; rw [hah]
        rw [h7]
        exact h6)
      clear K' hP HE HP HF hah hMo' hS
      go_wp2_with ((with_reducible apply wdelV); rfl; rfl; exact MV'.out; intro w9 hM9 hT9)
      refine bodyPost_end (results_none rfl _ _ _) rfl ?_
      exact ⟨rfl, HO.out w9 hM9 hT9⟩
end
end BuP
end Go.Proofs.YthogklchmhjjkaaGreat
set_option maxRecDepth 100000
namespace Go.Proofs.YthogklchmhjjkaaGreat
open Go.ChangeShapes Go.WideShapes Go.ChangeAt Go.RowKit
attribute [local go_sem] Gives GivesE
namespace BuP
open BuM MbM MbP MpV
/-- As outQ; blocks of X may be turned too. -/
def outX (X : Nat → Prop) (repB : RepB) (w : World) (g : Nat) (F : Fq) (k : Nat) (b : Bs) (w' : World) : Prop :=
  ∃ F', Pp repB w' g F' k b ∧ F'.gs = F.gs ∧ F'.gc = F.gc ∧ (∀ q, mutP F' q → mutP F q ∨ w.heap.size ≤ q) ∧ (∀ q, rdP F' q → mutP F q ∨ rdP F q ∨ w.heap.size ≤ q) ∧ Turn (fun q => mutP F q ∨ X q) w w'
/-- How F' came out of F. -/
def Come (X : Nat → Prop) (w : World) (F : Fq) (w' : World) (F' : Fq) : Prop := F'.gs = F.gs ∧ F'.gc = F.gc ∧ (∀ q, mutP F' q → mutP F q ∨ w.heap.size ≤ q) ∧ (∀ q, rdP F' q → mutP F q ∨ rdP F q ∨ w.heap.size ≤ q) ∧ Turn (fun q => mutP F q ∨ X q) w w'
section
variable {rB : RepB} {X Y : Nat → Prop} {w w' w2 : World} {g k : Nat} {F F' F2 : Fq} {b : Bs}
theorem Come.trans (h : Come X w F w' F') (h2 : Come Y w' F' w2 F2) (hY : ∀ q, Y q → X q ∨ w.heap.size ≤ q) : Come X w F w2 F2 := by
  obtain ⟨f1, f2, f3, f4, f5⟩ := h
  obtain ⟨e1, e2, e3, e4, e5⟩ := h2
  have hs := f5.size
  refine ⟨e1.trans f1, e2.trans f2, fun q e => ?_, fun q e => ?_, f5.trans e5 fun q e => ?_⟩
  · rcases e3 q e with y | y
    · exact f3 q y
    · exact .inr (by omega)
  · rcases e4 q e with y | y | y
    · exact (f3 q y).imp id .inr
    · exact f4 q y
    · exact .inr (.inr (by omega))
  · rcases e with y | y
    · exact (f3 q y).imp .inl id
    · exact (hY q y).imp .inr id
theorem Come.refl (X : Nat → Prop) (F : Fq) (hb : Below w.heap.size w w') : Come X w F w' F := ⟨rfl, rfl, fun _ e => .inl e, fun _ e => .inr (.inl e), Turn.of_new hb⟩
theorem Come.ofQ (h : outQ rB w g F k b w') : ∃ F', Pp rB w' g F' k b ∧ Come (fun _ => False) w F w' F' := by
  obtain ⟨F', h1, h2, h3, h4, h5, h6⟩ := h
  exact ⟨F', h1, h2, h3, h4, h5, h6.mono fun _ e => .inl e⟩
theorem Come.toQ (h : Come (fun _ => False) w F w' F') (H : Pp rB w' g F' k b) : outQ rB w g F k b w' := ⟨F', H, h.1, h.2.1, h.2.2.1, h.2.2.2.1, h.2.2.2.2.mono fun _ e => e.elim id False.elim⟩
theorem Come.toX (h : Come X w F w' F') (H : Pp rB w' g F' k b) : outX X rB w g F k b w' := ⟨F', H, h⟩
theorem Come.ofX (h : outX X rB w g F k b w') : ∃ F', Pp rB w' g F' k b ∧ Come X w F w' F' := h
theorem Come.touch (T : Nat → Prop) (F : Fq) (hb : Turn T w w') (hT : ∀ q, T q → X q ∨ w.heap.size ≤ q) : Come X w F w' F := ⟨rfl, rfl, fun _ e => .inl e, fun _ e => .inr (.inl e), (Turn.refl _ _).trans hb fun q e => (hT q e).imp .inr id⟩
end
def enP0 : BuM.Ent := ⟨0, 0, 0, fun _ => 0, 0⟩
theorem zEnP (w : World) : (zeroValue 57).run Tryz.prog w = .ok (.agg (enL enP0).toArray) w := (zero_of_info (P := Tryz.prog) (t := 57) (v := .agg (enL enP0).toArray) (n := 68) (by kernel_rfl)).1 w
section
variable {w w' : World} {g k : Nat} {F : Fq} {b : Bs}
/-- One more entry in the log; what is struck out is past. -/
theorem Pp.logged (H : Pp (RepK 1) w g F k b) {A : Option Addr} {c r : Nat} {vl v' : Value} {Fm : MpV.Img} {x : BuM.Ent} (K : Sk 1 w g F.gs F.gc A c r vl Fm F.Io b.steps b.off b.log) (hMo : F.Mo = mutK g r vl) (ht : Turn (fun q => q = g ∨ vl.ownBlock = some q) w w')
    (hb : Blk w' g 106 (pbV A F.gs.length c F.gc r v' b.off)) (ho : OwnX 57 68 enL w' 0 v' (b.log ++ [x])) (hv : ∀ q, v'.ownBlock = some q → vl.ownBlock = some q ∨ w.heap.size ≤ q) : outQ (RepK 0) w g F (k + 1) (BuM.put b x) w' := by
  have hS : ∀ q, F.Io q → ¬ (q = g ∨ vl.ownBlock = some q) := fun q e x => H.sep q (.inl e) (.inl (by rw [hMo]; exact x.imp id .inr))
  refine H.own (repB2 := RepK 0) (Mo' := mutK g r v') (off' := b.off) (log' := b.log ++ [x]) ⟨A, c, r, v', Fm, ⟨hb, K.pos, K.arr.turn ht fun q hq _ => hS q hq, K.map.turn ht fun e => e.elim (fun y => K.g_r y.symm) K.l_r, fun n hn => (K.due n ?_).turn ht hS, ho, fun q hq => Nat.lt_of_lt_of_le (K.slt q hq) ht.size⟩, rfl⟩ (ht.mono fun q e => by rw [hMo]; exact e.imp id .inr) (fun q e => ?_) (fun q e => ?_) (Nat.le_succ _) ?_
  · rw [List.length_append, List.length_cons, List.length_nil] at hn; omega
  · rcases e with e | e | e
    · exact .inl (by rw [hMo]; exact .inl e)
    · exact .inl (by rw [hMo]; exact .inr (.inl e))
    · exact (hv q e).imp (fun y => by rw [hMo]; exact .inr (.inr y)) id
  · rcases e with e | e | e
    · rw [e]; exact hb.lt
    · rw [e]; exact Nat.lt_of_lt_of_le K.map.lt ht.size
    · exact (ho.own q e).2
  · rw [List.length_append, List.length_cons, List.length_nil]; have := H.sz.2.2.2.1; omega
set_option maxHeartbeats 2000000 in
set_option maxRecDepth 100000 in
theorem lb_io {X : Nat → Prop} {D : World → Prop} {fn : FuncId} {cap : Array Value} {x y : BuM.Ent} {b2 : Bs} (H : Pp (RepK 0) w g F k b) (hk : k + b.steps.length + 2 ≤ 8000) (hcf : ∀ args w, (callFunc fn args).run Tryz.prog w = .ok (.enter fn args) w)
    (hX : ∀ q, X q → q < w.heap.size ∧ ¬ mutP F q ∧ ¬ rdP F q) (hD : ∀ w w' T, D w → Turn T w w' → (∀ q, X q → ¬ T q) → D w')
    (hdo : (BuM.ahead b).off = false → ∀ (w1 : World) (t : Nat) (F1 : Fq), Pp (RepK 1) w1 g F1 (k + b.steps.length) (BuM.ahead b) → Come (fun _ => False) w F w1 F1 → w.heap.size ≤ t → ¬ mutP F1 t → ¬ rdP F1 t → Blk w1 t 57 (enL x).toArray →
      Calls Tryz.prog fn (#[MbP.at' t] ++ cap) w1 fun e w2 => e = .returned (.tuple #[]) ∧ Blk w2 t 57 (enL y).toArray ∧ outX (fun q => q = t ∨ X q) (RepK 1) w1 g F1 (k + b.steps.length + 1) b2 w2 ∧ D w2) :
    Calls Tryz.prog 57 #[MbP.at' g, .agg (enL x).toArray, .func (.func fn) #[] cap] w fun e w' =>
      ((BuM.ahead b).off = true ∧ e = .returned (.agg (enL { x with e := 13 }).toArray) ∧ outQ (RepK 0) w g F (k + b.steps.length + 2) (BuM.put (BuM.ahead b) { x with e := 13 }) w') ∨
      ((BuM.ahead b).off = false ∧ e = .returned (.agg (enL y).toArray) ∧ outX X (RepK 0) w g F (k + b.steps.length + 2) (BuM.put b2 y) w' ∧ D w') := by
  have HH := hid H
  have HX := hid hX
  have HD := hid hD
  have HDO := hid hdo
  have hps := H.pos
  clear H hX hD hdo
  unfold MbP.at'
  go_enter Tryz.func57, Tryz.ntmps57
  go_upto_region 1 with (with_reducible apply alZ' zEnP)
  simp only [Act.put, List.setIfInBounds_toArray, List.set_cons_succ, List.set_cons_zero]
  generalize hw0 : World.alloc w _ = w0
  generalize hw1 : World.alloc w0 _ = w1
  obtain ⟨gT, hgT⟩ : ∃ n, n = w.heap.size := ⟨_, rfl⟩
  obtain ⟨gR, hgR⟩ : ∃ n, n = w0.heap.size := ⟨_, rfl⟩
  have hs0 : w0.heap.size = w.heap.size + 1 := by rw [← hw0]; simp
  have bT := hid (show Blk w1 gT 57 (enL x).toArray by rw [← hw1, ← hw0, hgT]; exact (Blk.new _ _ _).alloc _)
  have bR := hid (show Blk w1 gR 57 (enL enP0).toArray by rw [← hw1, hgR]; exact Blk.new _ _ _)
  have BEL := hid (show Below w.heap.size w w1 by rw [← hw1, ← hw0]; exact ((Below.refl _ _).alloc (Nat.le_refl _) _).alloc (by simp) _)
  rw [← hgT, ← hgR]
  have hTR : gT ≠ gR := by omega
  have hTw := hid (show w.heap.size ≤ gT by omega)
  have hRw := hid (show w.heap.size ≤ gR by omega)
  clear hw1 hw0 hs0 hgT hgR
  have H1 := hid (HH.out.belowK BEL.out)
  obtain ⟨A0, c0, p0⟩ := H1.out.hd
  go_wp2_with fail
  refine (lb_made p0 hps).mono ?_
  rintro e w' ⟨rfl, rfl⟩
  clear p0
  go_wp2_with fail
  refine (lb_steps H1.out (by omega)).mono ?_
  rintro e w2 ⟨rfl, ho⟩
  obtain ⟨F2, hP2, hC2⟩ := Come.ofQ ho
  have P2 := hid hP2
  have C2 := hid (show Come (fun _ => False) w F w2 F2 from (Come.refl _ F BEL.out).trans hC2 fun _ e => e.elim)
  have nT : ¬ mutP F2 gT ∧ ¬ rdP F2 gT := by
    have h1 := bT.out.lt
    have hl := hTw.out
    refine ⟨fun e => ?_, fun e => ?_⟩
    · rcases hC2.2.2.1 gT e with y | y
      · have := HH.out.mlt gT y; omega
      · omega
    · rcases hC2.2.2.2.1 gT e with y | y | y
      · have := HH.out.mlt gT y; omega
      · have := HH.out.ilt gT y; omega
      · omega
  have nR : ¬ mutP F2 gR ∧ ¬ rdP F2 gR := by
    have h1 := bR.out.lt
    have hl := hRw.out
    refine ⟨fun e => ?_, fun e => ?_⟩
    · rcases hC2.2.2.1 gR e with y | y
      · have := HH.out.mlt gR y; omega
      · omega
    · rcases hC2.2.2.2.1 gR e with y | y | y
      · have := HH.out.mlt gR y; omega
      · have := HH.out.ilt gR y; omega
      · omega
  have tQ : ∀ q, q < w1.heap.size → w.heap.size ≤ q → ¬ (mutP F q ∨ False) := fun q _ hq e => by
    rcases e with y | y
    · have := HH.out.mlt q y; omega
    · exact y
  have T2 := hid (bT.out.turn hC2.2.2.2.2 (tQ gT bT.out.lt hTw.out))
  have R2 := hid (bR.out.turn hC2.2.2.2.2 (tQ gR bR.out.lt hRw.out))
  clear ho hP2 hC2 bT bR tQ H1
  obtain ⟨A2, c2, r2, vl2, Fm2, K2, hMo2⟩ := P2.out.skel
  have p4 := pb_off K2.blk
  clear K2 hMo2
  cases hoff : (BuM.ahead b).off with
  | true =>
    rw [hoff] at p4
    have q67 := en_qe T2.out
    have fz := T2.out.frozen 67
    have ts := Turn.setCell (S := fun q => q = gT) w2 ⟨gT, 67, none⟩ (.int .i64 13) rfl
    have P3 := hid ((P2.out.turnK ts fun q e x => by rw [x] at e; exact e.elim nT.1 nT.2).mono (Nat.le_succ (k + b.steps.length)))
    have T3 := hid (en_setE T2.out 13)
    have R3 := hid (R2.out.turn ts fun e => hTR e.symm)
    have C3 := hid (show Come (fun _ => False) w F (w2.setCell ⟨gT, 67, none⟩ (.int .i64 13)) F2 from C2.out.trans (Come.touch (X := fun q => q = gT) _ F2 ts fun q e => .inl e) fun q e => .inr (e ▸ hTw.out))
    have nT3 := nT.1
    have nR3 := nR
    clear ts P2 T2 R2 C2 nT nR HDO HD HX
    go_upto_region 7 with fail
    generalize World.setCell w2 _ _ = w3 at P3 T3 R3 C3 ⊢
    clear p4 q67 fz
    obtain ⟨A3, c3, r3, vl3, Fm3, K3, hMo3⟩ := P3.out.skel
    obtain ⟨Al, cl, rfl, _⟩ := K3.lg.sli enL_len
    have hMm := hid (show ∀ q, (q = g ∨ (Value.slice Al (BuM.ahead b).log.length cl).ownBlock = some q) → mutP F2 q from fun q e => .inl (by rw [hMo3]; exact e.imp id .inr))
    have SK := hid K3
    have hMo := hid hMo3
    have hlg : (BuM.ahead b).log.length ≤ 9000 := Nat.le_trans P3.out.sz.2.2.2.1 (by omega)
    have hgw := K3.blk.lt
    have gTo : (Value.slice Al (BuM.ahead b).log.length cl).ownBlock ≠ some gT := fun e => nT3 (hMm.out _ (.inr e))
    have gTg : gT ≠ g := fun e => nT3 (hMm.out _ (.inl e))
    clear K3 hMo3
    refine wp_region_c (S := yS [some (.pointer (some ⟨g, 0, none⟩)), some (.pointer (some ⟨g, 0, none⟩)), some (.pointer (some ⟨g, 0, none⟩)), some (.pointer (some ⟨g, 3, none⟩)), some (.slice Al (BuM.ahead b).log.length cl), some (.agg (enL { x with e := 13 }).toArray), none, none, some (.pointer (some ⟨g, 0, none⟩)), some (.pointer (some ⟨g, 3, none⟩))]
      [(6, kSl 1), (7, kSl ((BuM.ahead b).log.length + 1))]) (C := fun d vs w' => ApC 57 68 enL w3 (.slice Al (BuM.ahead b).log.length cl) (BuM.ahead b).log ({ x with e := 13 }) (d 6) (d 7) (vs 6) (vs 7) w') 10 (by kernel_rfl) (by kernel_rfl) (by kernel_rfl) _
      (yS_ok _ fun y hy => by simp only [List.mem_cons, List.not_mem_nil, or_false] at hy; rcases hy with rfl | rfl <;> exact kSl_ok _) ⟨Turn.drew _, fun _ => (Below.refl _ _).drew, (fun e => by cases e), (fun e => by cases e)⟩ fun vs => ?_
    simp only [List.take_succ_cons, List.take_zero, List.drop_succ_cons, List.drop_zero]
    refine ⟨.inl ⟨rfl, fun dd w' hd hnx hw hC => ?_⟩, fun e => ?_⟩
    · go_simp
      first | exact ⟨rfl, hC⟩ | exact hC
    have e' : vs 0 = _ := e
    rw [e']
    clear e e'
    simp only [Act.put, List.setIfInBounds_toArray, List.set_cons_succ, List.set_cons_zero]
    refine ⟨.inl ⟨rfl, fun dd w' hd hnx hw hC => ?_⟩, fun e => ?_⟩
    · go_simp
      first | exact ⟨rfl, hC⟩ | exact hC
    have e' : vs 1 = _ := e
    rw [e']
    clear e e'
    simp only [Act.put, List.setIfInBounds_toArray, List.set_cons_succ, List.set_cons_zero]
    refine ⟨.inl ⟨rfl, fun dd w' hd hnx hw hC => ?_⟩, fun e => ?_⟩
    · go_simp
      first | exact ⟨rfl, hC⟩ | exact hC
    have e' : vs 2 = _ := e
    rw [e']
    clear e e'
    simp only [Act.put, List.setIfInBounds_toArray, List.set_cons_succ, List.set_cons_zero]
    refine ⟨.inl ⟨rfl, fun dd w' hd hnx hw hC => ?_⟩, fun e => ?_⟩
    · go_simp
      first | exact ⟨rfl, hC⟩ | exact hC
    have e' : vs 3 = _ := e
    rw [e']
    clear e e'
    simp only [Act.put, List.setIfInBounds_toArray, List.set_cons_succ, List.set_cons_zero]
    refine ⟨.inl ⟨rfl, fun dd w' hd hnx hw hC => ?_⟩, fun e => ?_⟩
    · have h1 : w'.cell? ⟨g, 3, none⟩ = some (.slice Al (BuM.ahead b).log.length cl) := pb_lg (SK.out.blk.turn hC.t SK.out.l_g)
      go_simp
      first | exact ⟨rfl, hC⟩ | exact hC
    have e' : vs 4 = _ := e
    rw [e']
    clear e e'
    simp only [Act.put, List.setIfInBounds_toArray, List.set_cons_succ, List.set_cons_zero]
    refine ⟨.inl ⟨rfl, fun dd w' hd hnx hw hC => ?_⟩, fun e => ?_⟩
    · exact ClP.gE_ldR (cs := (enL { x with e := 13 }).toArray) (tEnP _) rfl (T3.out.turn hC.t gTo).whole ⟨rfl, hC⟩
    have e' : vs 5 = _ := e
    rw [e']
    clear e e'
    simp only [Act.put, List.setIfInBounds_toArray, List.set_cons_succ, List.set_cons_zero]
    refine ⟨.inl ⟨rfl, fun dd w' hd hnx hw hC => ?_⟩, fun e => ?_⟩
    · have h8 : dd 7 = false := hnx 7 (by kernel_rfl)
      have ha := (Below.refl w'.heap.size w').alloc (Nat.le_refl _) (.cells (enL { x with e := 13 }).toArray 57)
      have hbl := hC.b h8
      exact gE_lit1 (x := ({ x with e := 13 } : BuM.Ent)) eltEnP undEnP (by omega) rfl rfl ⟨⟨_, _, rfl⟩, hC.t.trans (Turn.of_new (S := fun _ => False) ha) (fun _ e => e.elim), (fun _ => hbl.trans (ha.mono hbl.size)), (fun _ _ => ⟨_, _, rfl, sli_lit1 eltEnP ({ x with e := 13 } : BuM.Ent) w' hbl.size⟩), fun e => by
        have e' : dd 7 = true := e
        rw [h8] at e'; cases e'⟩
    obtain ⟨A7, c7, e'⟩ : ∃ (A : Option Addr) (c : Nat), vs 6 = .slice A 1 c := e
    rw [e']
    have E7 := hid e'
    clear e'
    simp only [Act.put, List.setIfInBounds_toArray, List.set_cons_succ, List.set_cons_zero]
    refine ⟨.inl ⟨rfl, fun dd w' hd hnx hw hC => ?_⟩, fun e => ?_⟩
    · have h7 : dd 6 = true := hw 6 (by kernel_rfl)
      have hbl := hC.b hd
      obtain ⟨A', c', f, sl⟩ := hC.lit h7 hd
      rw [E7.out] at f
      cases f
      refine gE_appW eltEnP undEnP (B := 0) (v := .slice Al (BuM.ahead b).log.length cl) (l := (BuM.ahead b).log) (m := [({ x with e := 13 } : BuM.Ent)]) rfl rfl (SK.out.lg.below hbl (Nat.le_refl _)) sl (by omega) (by omega) (Nat.zero_le _) fun v' w4 o4 g4 wh => ?_
      obtain ⟨A4, c4, rfl, _⟩ := o4.sli enL_len
      refine ⟨⟨A4, c4, by rw [List.length_append]; rfl⟩, ?_⟩
      exact ⟨(Turn.of_new (S := fun b' => (Value.slice Al (BuM.ahead b).log.length cl).ownBlock = some b') hbl).trans (Turn.of_grown (S := fun b' => (Value.slice Al (BuM.ahead b).log.length cl).ownBlock = some b') g4 fun b' e => e) (fun b' e => .inl e), (fun e => by cases e), (fun _ e => by cases e), fun _ => ⟨o4, fun b' e => by
        have e3 : (Value.slice A4 ((BuM.ahead b).log ++ [({ x with e := 13 } : BuM.Ent)]).length c4).ownBlock = some b' := e
        rcases wh with x | x
        · exact .inl (x.symm.trans e3)
        · rw [x] at e3; cases e3; exact .inr hbl.size⟩⟩
    obtain ⟨A8, c8, e'⟩ : ∃ (A : Option Addr) (c : Nat), vs 7 = .slice A ((BuM.ahead b).log.length + 1) c := e
    rw [e']
    have E8 := hid e'
    clear e'
    simp only [Act.put, List.setIfInBounds_toArray, List.set_cons_succ, List.set_cons_zero]
    refine ⟨.inl ⟨rfl, fun dd w' hd hnx hw hC => ?_⟩, fun e => ?_⟩
    · go_simp
      first | exact ⟨rfl, hC⟩ | exact hC
    have e' : vs 8 = _ := e
    rw [e']
    clear e e'
    simp only [Act.put, List.setIfInBounds_toArray, List.set_cons_succ, List.set_cons_zero]
    refine ⟨.inl ⟨rfl, fun dd w' hd hnx hw hC => ?_⟩, fun e => ?_⟩
    · go_simp
      first | exact ⟨rfl, hC⟩ | exact hC
    have e' : vs 9 = _ := e
    rw [e']
    clear e e'
    simp only [Act.put, List.setIfInBounds_toArray, List.set_cons_succ, List.set_cons_zero]
    intro dd w4 hall hC
    obtain ⟨o4, wh⟩ := hC.own (hall 7 (by omega))
    rw [E8.out] at o4 wh
    have bb4 := SK.out.blk.turn hC.t SK.out.l_g
    have tu5 := Turn.setCell (S := fun q => q = g) w4 ⟨g, 3, none⟩ (.slice A8 ((BuM.ahead b).log.length + 1) c8) rfl
    have hne4 : ∀ q, (Value.slice A8 ((BuM.ahead b).log.length + 1) c8).ownBlock = some q → q ≠ g := fun q e e2 => by
      rcases wh q e with x | x
      · exact SK.out.l_g (by rw [x, e2])
      · omega
    have TT5 := hid (show Turn (fun q => (q = g ∨ (Value.slice Al (BuM.ahead b).log.length cl).ownBlock = some q) ∨ w3.heap.size ≤ q) w3 (w4.setCell ⟨g, 3, none⟩ (.slice A8 ((BuM.ahead b).log.length + 1) c8)) from
      (hC.t.mono fun q e => .inl (.inr e)).trans tu5 fun q e => .inl (.inl (.inl e)))
    have TU5 := hid (show Turn (fun q => q = g ∨ (Value.slice Al (BuM.ahead b).log.length cl).ownBlock = some q) w3 (w4.setCell ⟨g, 3, none⟩ (.slice A8 ((BuM.ahead b).log.length + 1) c8)) from
      (hC.t.mono fun q e => .inr e).trans tu5 fun q e => .inl (.inl e))
    have HL := hid (P3.out.logged (x := { x with e := 13 }) SK.out hMo.out TU5.out (pb_setLg bb4 _) (o4.turn tu5 hne4) wh)
    have T5 := hid (T3.out.turn TU5.out fun e => e.elim gTg gTo)
    have R5 := hid (R3.out.turn TU5.out fun e => nR3.1 (hMm.out _ e))
    have hRl := hid R3.out.lt
    have p3 : w4.cell? ⟨g, 3, none⟩ = some (.slice Al (BuM.ahead b).log.length cl) := pb_lg bb4
    have fz := bb4.frozen 3
    clear hC o4 wh hall E7 E8 tu5 hne4 bb4 SK hMo T3 R3
    go_upto_region 8 with fail
    generalize World.setCell w4 _ _ = w5 at TT5 TU5 HL T5 R5 ⊢
    clear p3 fz
    go_wp2_with (first | ((with_reducible apply ldR (cs := (enL { x with e := 13 }).toArray) (tEnP _)); rfl; exact T5.out.whole) | ((with_reducible apply stR (tEnP _)); rfl; rfl; exact R5.out; exact en_size _ _; exact en_one' _))
    generalize hw6 : World.setRow w5 _ _ = w6
    have R6 := hid (show Blk w6 gR 57 (enL { x with e := 13 }).toArray by rw [← hw6]; exact R5.out.setRow_same _)
    have T6 := hid (show Turn (fun q => q = gR) w5 w6 by rw [← hw6]; exact Turn.setRow _ _ _ rfl)
    obtain ⟨F5, hP5, hC5⟩ := Come.ofQ HL.out
    have nR5 : ¬ mutP F5 gR ∧ ¬ rdP F5 gR := by
      have h1 := hRl.out
      refine ⟨fun e => ?_, fun e => ?_⟩
      · rcases hC5.2.2.1 gR e with y | y
        · exact nR3.1 y
        · omega
      · rcases hC5.2.2.2.1 gR e with y | y | y
        · exact nR3.1 y
        · exact nR3.2 y
        · omega
    have P6 := hid (hP5.turnK T6.out fun q e x => by rw [x] at e; exact e.elim nR5.1 nR5.2)
    have C6 := hid (show Come (fun _ => False) w F w6 F5 from (C3.out.trans hC5 fun _ e => e.elim).trans (Come.touch (X := fun q => q = gR) _ F5 T6.out fun q e => .inl e) fun q e => .inr (e ▸ hRw.out))
    clear hw6 HL hP5 hC5 T5 R5 nR5
    apply ret_row' (tEnP _) Tryz.results57
    · rfl
    · rfl
    · exact R6.out
    exact .inl ⟨by first | rfl | exact hoff, rfl, C6.out.toQ P6.out⟩
  | false =>
    rw [hoff] at p4
    have hdo := HDO.out hoff w2 gT F2 P2.out C2.out hTw.out nT.1 nT.2 T2.out
    clear HDO
    go_wp2_with fail
    clear p4
    refine hdo.mono ?_
    rintro e w3 ⟨rfl, hb, ho, hd⟩
    obtain ⟨F3, hP3, hC3⟩ := Come.ofX ho
    have P3 := hid hP3
    have T3 := hid hb
    have nT3 : ¬ mutP F3 gT := fun e => by
      have h1 := T2.out.lt
      rcases hC3.2.2.1 gT e with y | y
      · exact nT.1 y
      · omega
    have nR3 : ¬ mutP F3 gR ∧ ¬ rdP F3 gR := by
      have h1 := R2.out.lt
      refine ⟨fun e => ?_, fun e => ?_⟩
      · rcases hC3.2.2.1 gR e with y | y
        · exact nR.1 y
        · omega
      · rcases hC3.2.2.2.1 gR e with y | y | y
        · exact nR.1 y
        · exact nR.2 y
        · omega
    have R3 := hid (R2.out.turn hC3.2.2.2.2 fun e => by
      rcases e with e | e | e
      · exact nR.1 e
      · exact hTR e.symm
      · have := (HX.out gR e).1; have := hRw.out; omega)
    have C3 := hid (show Come X w F w3 F3 from Come.trans (X := X) (Come.trans (X := X) (Come.refl X F (Below.refl _ _)) C2.out fun _ e => e.elim) hC3 fun q e => e.elim (fun y => .inr (y ▸ hTw.out)) .inl)
    have nX := hid (show ∀ q, X q → ¬ mutP F3 q from fun q e x => by
      have hq := HX.out q e
      rcases C3.out.2.2.1 q x with y | y
      · exact hq.2.1 y
      · omega)
    have D3 := hid hd
    clear ho hP3 hC3 hb hd hdo P2 T2 R2 C2 nT nR
    go_upto_region 7 with fail
    obtain ⟨A3, c3, r3, vl3, Fm3, K3, hMo3⟩ := P3.out.skel
    obtain ⟨Al, cl, rfl, _⟩ := K3.lg.sli enL_len
    have hMm := hid (show ∀ q, (q = g ∨ (Value.slice Al (b2).log.length cl).ownBlock = some q) → mutP F3 q from fun q e => .inl (by rw [hMo3]; exact e.imp id .inr))
    have SK := hid K3
    have hMo := hid hMo3
    have hlg : (b2).log.length ≤ 9000 := Nat.le_trans P3.out.sz.2.2.2.1 (by omega)
    have hgw := K3.blk.lt
    have gTo : (Value.slice Al (b2).log.length cl).ownBlock ≠ some gT := fun e => nT3 (hMm.out _ (.inr e))
    have gTg : gT ≠ g := fun e => nT3 (hMm.out _ (.inl e))
    clear K3 hMo3
    refine wp_region_c (S := yS [some (.pointer (some ⟨g, 0, none⟩)), some (.pointer (some ⟨g, 0, none⟩)), some (.pointer (some ⟨g, 0, none⟩)), some (.pointer (some ⟨g, 3, none⟩)), some (.slice Al (b2).log.length cl), some (.agg (enL y).toArray), none, none, some (.pointer (some ⟨g, 0, none⟩)), some (.pointer (some ⟨g, 3, none⟩))]
      [(6, kSl 1), (7, kSl ((b2).log.length + 1))]) (C := fun d vs w' => ApC 57 68 enL w3 (.slice Al (b2).log.length cl) (b2).log (y) (d 6) (d 7) (vs 6) (vs 7) w') 10 (by kernel_rfl) (by kernel_rfl) (by kernel_rfl) _
      (yS_ok _ fun y hy => by simp only [List.mem_cons, List.not_mem_nil, or_false] at hy; rcases hy with rfl | rfl <;> exact kSl_ok _) ⟨Turn.drew _, fun _ => (Below.refl _ _).drew, (fun e => by cases e), (fun e => by cases e)⟩ fun vs => ?_
    simp only [List.take_succ_cons, List.take_zero, List.drop_succ_cons, List.drop_zero]
    refine ⟨.inl ⟨rfl, fun dd w' hd hnx hw hC => ?_⟩, fun e => ?_⟩
    · go_simp
      first | exact ⟨rfl, hC⟩ | exact hC
    have e' : vs 0 = _ := e
    rw [e']
    clear e e'
    simp only [Act.put, List.setIfInBounds_toArray, List.set_cons_succ, List.set_cons_zero]
    refine ⟨.inl ⟨rfl, fun dd w' hd hnx hw hC => ?_⟩, fun e => ?_⟩
    · go_simp
      first | exact ⟨rfl, hC⟩ | exact hC
    have e' : vs 1 = _ := e
    rw [e']
    clear e e'
    simp only [Act.put, List.setIfInBounds_toArray, List.set_cons_succ, List.set_cons_zero]
    refine ⟨.inl ⟨rfl, fun dd w' hd hnx hw hC => ?_⟩, fun e => ?_⟩
    · go_simp
      first | exact ⟨rfl, hC⟩ | exact hC
    have e' : vs 2 = _ := e
    rw [e']
    clear e e'
    simp only [Act.put, List.setIfInBounds_toArray, List.set_cons_succ, List.set_cons_zero]
    refine ⟨.inl ⟨rfl, fun dd w' hd hnx hw hC => ?_⟩, fun e => ?_⟩
    · go_simp
      first | exact ⟨rfl, hC⟩ | exact hC
    have e' : vs 3 = _ := e
    rw [e']
    clear e e'
    simp only [Act.put, List.setIfInBounds_toArray, List.set_cons_succ, List.set_cons_zero]
    refine ⟨.inl ⟨rfl, fun dd w' hd hnx hw hC => ?_⟩, fun e => ?_⟩
    · have h1 : w'.cell? ⟨g, 3, none⟩ = some (.slice Al (b2).log.length cl) := pb_lg (SK.out.blk.turn hC.t SK.out.l_g)
      go_simp
      first | exact ⟨rfl, hC⟩ | exact hC
    have e' : vs 4 = _ := e
    rw [e']
    clear e e'
    simp only [Act.put, List.setIfInBounds_toArray, List.set_cons_succ, List.set_cons_zero]
    refine ⟨.inl ⟨rfl, fun dd w' hd hnx hw hC => ?_⟩, fun e => ?_⟩
    · exact ClP.gE_ldR (cs := (enL y).toArray) (tEnP _) rfl (T3.out.turn hC.t gTo).whole ⟨rfl, hC⟩
    have e' : vs 5 = _ := e
    rw [e']
    clear e e'
    simp only [Act.put, List.setIfInBounds_toArray, List.set_cons_succ, List.set_cons_zero]
    refine ⟨.inl ⟨rfl, fun dd w' hd hnx hw hC => ?_⟩, fun e => ?_⟩
    · have h8 : dd 7 = false := hnx 7 (by kernel_rfl)
      have ha := (Below.refl w'.heap.size w').alloc (Nat.le_refl _) (.cells (enL y).toArray 57)
      have hbl := hC.b h8
      exact gE_lit1 (x := (y : BuM.Ent)) eltEnP undEnP (by omega) rfl rfl ⟨⟨_, _, rfl⟩, hC.t.trans (Turn.of_new (S := fun _ => False) ha) (fun _ e => e.elim), (fun _ => hbl.trans (ha.mono hbl.size)), (fun _ _ => ⟨_, _, rfl, sli_lit1 eltEnP (y : BuM.Ent) w' hbl.size⟩), fun e => by
        have e' : dd 7 = true := e
        rw [h8] at e'; cases e'⟩
    obtain ⟨A7, c7, e'⟩ : ∃ (A : Option Addr) (c : Nat), vs 6 = .slice A 1 c := e
    rw [e']
    have E7 := hid e'
    clear e'
    simp only [Act.put, List.setIfInBounds_toArray, List.set_cons_succ, List.set_cons_zero]
    refine ⟨.inl ⟨rfl, fun dd w' hd hnx hw hC => ?_⟩, fun e => ?_⟩
    · have h7 : dd 6 = true := hw 6 (by kernel_rfl)
      have hbl := hC.b hd
      obtain ⟨A', c', f, sl⟩ := hC.lit h7 hd
      rw [E7.out] at f
      cases f
      refine gE_appW eltEnP undEnP (B := 0) (v := .slice Al (b2).log.length cl) (l := (b2).log) (m := [(y : BuM.Ent)]) rfl rfl (SK.out.lg.below hbl (Nat.le_refl _)) sl (by omega) (by omega) (Nat.zero_le _) fun v' w4 o4 g4 wh => ?_
      obtain ⟨A4, c4, rfl, _⟩ := o4.sli enL_len
      refine ⟨⟨A4, c4, by rw [List.length_append]; rfl⟩, ?_⟩
      exact ⟨(Turn.of_new (S := fun b' => (Value.slice Al (b2).log.length cl).ownBlock = some b') hbl).trans (Turn.of_grown (S := fun b' => (Value.slice Al (b2).log.length cl).ownBlock = some b') g4 fun b' e => e) (fun b' e => .inl e), (fun e => by cases e), (fun _ e => by cases e), fun _ => ⟨o4, fun b' e => by
        have e3 : (Value.slice A4 ((b2).log ++ [(y : BuM.Ent)]).length c4).ownBlock = some b' := e
        rcases wh with x | x
        · exact .inl (x.symm.trans e3)
        · rw [x] at e3; cases e3; exact .inr hbl.size⟩⟩
    obtain ⟨A8, c8, e'⟩ : ∃ (A : Option Addr) (c : Nat), vs 7 = .slice A ((b2).log.length + 1) c := e
    rw [e']
    have E8 := hid e'
    clear e'
    simp only [Act.put, List.setIfInBounds_toArray, List.set_cons_succ, List.set_cons_zero]
    refine ⟨.inl ⟨rfl, fun dd w' hd hnx hw hC => ?_⟩, fun e => ?_⟩
    · go_simp
      first | exact ⟨rfl, hC⟩ | exact hC
    have e' : vs 8 = _ := e
    rw [e']
    clear e e'
    simp only [Act.put, List.setIfInBounds_toArray, List.set_cons_succ, List.set_cons_zero]
    refine ⟨.inl ⟨rfl, fun dd w' hd hnx hw hC => ?_⟩, fun e => ?_⟩
    · go_simp
      first | exact ⟨rfl, hC⟩ | exact hC
    have e' : vs 9 = _ := e
    rw [e']
    clear e e'
    simp only [Act.put, List.setIfInBounds_toArray, List.set_cons_succ, List.set_cons_zero]
    intro dd w4 hall hC
    obtain ⟨o4, wh⟩ := hC.own (hall 7 (by omega))
    rw [E8.out] at o4 wh
    have bb4 := SK.out.blk.turn hC.t SK.out.l_g
    have tu5 := Turn.setCell (S := fun q => q = g) w4 ⟨g, 3, none⟩ (.slice A8 ((b2).log.length + 1) c8) rfl
    have hne4 : ∀ q, (Value.slice A8 ((b2).log.length + 1) c8).ownBlock = some q → q ≠ g := fun q e e2 => by
      rcases wh q e with x | x
      · exact SK.out.l_g (by rw [x, e2])
      · omega
    have TT5 := hid (show Turn (fun q => (q = g ∨ (Value.slice Al (b2).log.length cl).ownBlock = some q) ∨ w3.heap.size ≤ q) w3 (w4.setCell ⟨g, 3, none⟩ (.slice A8 ((b2).log.length + 1) c8)) from
      (hC.t.mono fun q e => .inl (.inr e)).trans tu5 fun q e => .inl (.inl (.inl e)))
    have TU5 := hid (show Turn (fun q => q = g ∨ (Value.slice Al (b2).log.length cl).ownBlock = some q) w3 (w4.setCell ⟨g, 3, none⟩ (.slice A8 ((b2).log.length + 1) c8)) from
      (hC.t.mono fun q e => .inr e).trans tu5 fun q e => .inl (.inl e))
    have HL := hid (P3.out.logged (x := y) SK.out hMo.out TU5.out (pb_setLg bb4 _) (o4.turn tu5 hne4) wh)
    have T5 := hid (T3.out.turn TU5.out fun e => e.elim gTg gTo)
    have R5 := hid (R3.out.turn TU5.out fun e => nR3.1 (hMm.out _ e))
    have hRl := hid R3.out.lt
    have p3 : w4.cell? ⟨g, 3, none⟩ = some (.slice Al (b2).log.length cl) := pb_lg bb4
    have fz := bb4.frozen 3
    clear hC o4 wh hall E7 E8 tu5 hne4 bb4 SK hMo T3 R3
    go_upto_region 8 with fail
    generalize World.setCell w4 _ _ = w5 at TT5 TU5 HL T5 R5 ⊢
    clear p3 fz
    go_wp2_with (first | ((with_reducible apply ldR (cs := (enL y).toArray) (tEnP _)); rfl; exact T5.out.whole) | ((with_reducible apply stR (tEnP _)); rfl; rfl; exact R5.out; exact en_size _ _; exact en_one' _))
    generalize hw6 : World.setRow w5 _ _ = w6
    have R6 := hid (show Blk w6 gR 57 (enL y).toArray by rw [← hw6]; exact R5.out.setRow_same _)
    have T6 := hid (show Turn (fun q => q = gR) w5 w6 by rw [← hw6]; exact Turn.setRow _ _ _ rfl)
    obtain ⟨F5, hP5, hC5⟩ := Come.ofQ HL.out
    have nR5 : ¬ mutP F5 gR ∧ ¬ rdP F5 gR := by
      have h1 := hRl.out
      refine ⟨fun e => ?_, fun e => ?_⟩
      · rcases hC5.2.2.1 gR e with y | y
        · exact nR3.1 y
        · omega
      · rcases hC5.2.2.2.1 gR e with y | y | y
        · exact nR3.1 y
        · exact nR3.2 y
        · omega
    have P6 := hid (hP5.turnK T6.out fun q e x => by rw [x] at e; exact e.elim nR5.1 nR5.2)
    have C6 := hid (show Come X w F w6 F5 from (C3.out.trans hC5 fun _ e => e.elim).trans (Come.touch (X := fun q => q = gR) _ F5 T6.out fun q e => .inl e) fun q e => .inr (e ▸ hRw.out))
    clear hw6 HL hP5 hC5 T5 R5 nR5
    apply ret_row' (tEnP _) Tryz.results57
    · rfl
    · rfl
    · exact R6.out
    have D6 := hid (show D w6 from HD.out _ _ _ (HD.out _ _ _ D3.out TT5.out fun q e x => by
      rcases x with x | x
      · exact nX.out q e (hMm.out q x)
      · have h1 := (HX.out q e).1; have h2 := C3.out.2.2.2.2.size; omega) T6.out fun q e x => by
        have h1 := (HX.out q e).1; have := hRw.out; rw [x] at h1; omega)
    exact .inr ⟨by first | rfl | exact hoff, rfl, C6.out.toX P6.out, D6.out⟩
end
end BuP
end Go.Proofs.YthogklchmhjjkaaGreat
set_option maxRecDepth 100000
namespace Go.Proofs.YthogklchmhjjkaaGreat
open Go.ChangeShapes Go.WideShapes Go.ChangeAt Go.RowKit
attribute [local go_sem] Gives GivesE
namespace BuP
open BuM MbM MbP MpV
section
variable {w w' : World} {d g k : Nat} {F : Fq} {b : Bs}
set_option maxRecDepth 100000 in
theorem lb_ofmIn {t g1 g3 mi gi : Nat} {x : BuM.Ent} {fn : FuncId} {cap : Array Value} {R : World → Prop} {T1 T3 : TypeId} (H : Pp (RepK d) w g F k b) (hm : mi < b.ms.length) (hgi : F.gs[mi]? = some gi) (hx : x.m = (mi : Int)) (bt : Blk w t 57 (enL x).toArray)
    (b1 : Blk w g1 T1 #[.pointer (some ⟨g, 0, none⟩)]) (b3 : Blk w g3 T3 #[.func (.func fn) #[] cap]) (hcf : ∀ args w, (callFunc fn args).run Tryz.prog w = .ok (.enter fn args) w)
    (hcall : ∀ w2, Below w.heap.size w w2 → Calls Tryz.prog fn (#[MbP.at' gi, MbP.at' t] ++ cap) w2 fun e w' => e = .returned (.tuple #[]) ∧ R w') :
    Calls Tryz.prog 69 #[MbP.at' t, .pointer (some ⟨g1, 0, none⟩), .pointer (some ⟨g3, 0, none⟩)] w fun e w' => e = .returned (.tuple #[]) ∧ R w' := by
  obtain ⟨gi', st, A, c, bA, oA, h1, _, _, _, h5, rfl, h7, _⟩ := H.at hm
  rw [hgi] at h1
  cases h1
  have hps := H.pos
  have qm : w.cell? ⟨t, 1, none⟩ = some (.int .i64 (mi : Nat)) := by rw [← hx]; exact en_m (o := 0) bt.whole
  have q1 : w.cell? ⟨g1, 0, none⟩ = some (.pointer (some ⟨g, 0, none⟩)) := b1.cell 0
  have q3 : w.cell? ⟨g3, 0, none⟩ = some (.func (.func fn) #[] cap) := b3.cell 0
  have HC := hid hcall
  clear H hcall bt b1 b3 hgi hx
  unfold MbP.at'
  go_enter Tryz.func69, Tryz.ntmps69
  go_upto_region 0 with fail
  refine wp_region_tail (C := fun w' => Below w.heap.size w w') 5 (by kernel_rfl) (by kernel_rfl) (by kernel_rfl) (Below.refl _ _).drew ?_
  simp only [List.take_succ_cons, List.take_zero, List.drop_succ_cons, List.drop_zero]
  apply wpK_val
  · rfl
  · intro w' hw'
    have hcell := (hw'.cell (p := ⟨g1, 0, none⟩) (World.block_lt_of_cell? w _ q1)).trans q1
    go_simp
    first | exact rfl | exact ⟨rfl, hw'⟩
  simp only [Act.put, List.setIfInBounds_toArray, List.set_cons_succ, List.set_cons_zero]
  apply wpK_val
  · rfl
  · intro w' hw'
    go_simp
    first | exact rfl | exact ⟨rfl, hw'⟩
  simp only [Act.put, List.setIfInBounds_toArray, List.set_cons_succ, List.set_cons_zero]
  apply wpK_val
  · rfl
  · intro w' hw'
    go_simp
    first | exact rfl | exact ⟨rfl, hw'⟩
  simp only [Act.put, List.setIfInBounds_toArray, List.set_cons_succ, List.set_cons_zero]
  apply wpK_val
  · rfl
  · intro w' hw'
    go_simp
    first | exact rfl | exact ⟨rfl, hw'⟩
  simp only [Act.put, List.setIfInBounds_toArray, List.set_cons_succ, List.set_cons_zero]
  apply wpK_val
  · rfl
  · intro w' hw'
    have hcell := (hw'.cell (p := ⟨t, 1, none⟩) (World.block_lt_of_cell? w _ qm)).trans qm
    go_simp
    first | exact rfl | exact ⟨rfl, hw'⟩
  simp only [Act.put, List.setIfInBounds_toArray, List.set_cons_succ, List.set_cons_zero]
  intro w2 hC2
  have H2 := hid (HC.out w2 hC2)
  have h5' := (hC2.cell (p := ⟨g, 0, none⟩) (World.block_lt_of_cell? w _ h5)).trans h5
  have h7' := (hC2.cell (p := ⟨bA, oA + mi, none⟩) (World.block_lt_of_cell? w _ h7)).trans h7
  have q3' := (hC2.cell (p := ⟨g3, 0, none⟩) (World.block_lt_of_cell? w _ q3)).trans q3
  clear h5 h7 q1 q3 qm HC hC2
  go_wp2_with fail
  refine (lb_in h5' hps hm h7').mono ?_
  rintro e w' ⟨rfl, rfl⟩
  clear h5' h7'
  unfold MbP.at'
  go_wp2_with fail
  refine H2.out.mono ?_
  rintro e w4 ⟨rfl, hR⟩
  have HR := hid hR
  clear hR q3' H2
  go_wp2_with fail
  refine bodyPost_end (results_none rfl _ _ _) rfl ?_
  exact ⟨rfl, HR.out⟩
set_option maxRecDepth 100000 in
theorem lb_ofmOut {t g1 g3 : Nat} {x : BuM.Ent} {T1 : TypeId} (H : Pp (RepK d) w g F k b) (hm : ¬ mem b.ms x.m = true) (bt : Blk w t 57 (enL x).toArray) (b1 : Blk w g1 T1 #[.pointer (some ⟨g, 0, none⟩)]) :
    Calls Tryz.prog 69 #[MbP.at' t, .pointer (some ⟨g1, 0, none⟩), .pointer (some ⟨g3, 0, none⟩)] w fun e w' => e = .returned (.tuple #[]) ∧ ∃ w2, Below w.heap.size w w2 ∧ w' = w2.setCell ⟨t, 67, none⟩ (.int .i64 2) := by
  obtain ⟨A, c, h5⟩ := H.hd
  have hps := H.pos
  have hmn := mem_not hm
  obtain ⟨m, hmx⟩ : ∃ m, m = x.m := ⟨_, rfl⟩
  rw [← hmx] at hmn
  have qm : w.cell? ⟨t, 1, none⟩ = some (.int .i64 m) := by rw [hmx]; exact en_m (o := 0) bt.whole
  have q1 : w.cell? ⟨g1, 0, none⟩ = some (.pointer (some ⟨g, 0, none⟩)) := b1.cell 0
  have BT := hid bt
  clear H bt b1 hm hmx
  unfold MbP.at'
  go_enter Tryz.func69, Tryz.ntmps69
  go_upto_region 0 with fail
  refine wp_region_tail (C := fun w' => Below w.heap.size w w') 5 (by kernel_rfl) (by kernel_rfl) (by kernel_rfl) (Below.refl _ _).drew ?_
  simp only [List.take_succ_cons, List.take_zero, List.drop_succ_cons, List.drop_zero]
  apply wpK_val
  · rfl
  · intro w' hw'
    have hcell := (hw'.cell (p := ⟨g1, 0, none⟩) (World.block_lt_of_cell? w _ q1)).trans q1
    go_simp
    first | exact rfl | exact ⟨rfl, hw'⟩
  simp only [Act.put, List.setIfInBounds_toArray, List.set_cons_succ, List.set_cons_zero]
  apply wpK_val
  · rfl
  · intro w' hw'
    go_simp
    first | exact rfl | exact ⟨rfl, hw'⟩
  simp only [Act.put, List.setIfInBounds_toArray, List.set_cons_succ, List.set_cons_zero]
  apply wpK_val
  · rfl
  · intro w' hw'
    go_simp
    first | exact rfl | exact ⟨rfl, hw'⟩
  simp only [Act.put, List.setIfInBounds_toArray, List.set_cons_succ, List.set_cons_zero]
  apply wpK_val
  · rfl
  · intro w' hw'
    go_simp
    first | exact rfl | exact ⟨rfl, hw'⟩
  simp only [Act.put, List.setIfInBounds_toArray, List.set_cons_succ, List.set_cons_zero]
  apply wpK_val
  · rfl
  · intro w' hw'
    have hcell := (hw'.cell (p := ⟨t, 1, none⟩) (World.block_lt_of_cell? w _ qm)).trans qm
    go_simp
    first | exact rfl | exact ⟨rfl, hw'⟩
  simp only [Act.put, List.setIfInBounds_toArray, List.set_cons_succ, List.set_cons_zero]
  intro w2 hC2
  have h5' := (hC2.cell (p := ⟨g, 0, none⟩) (World.block_lt_of_cell? w _ h5)).trans h5
  have B2 := BT.out.below hC2 BT.out.lt
  have qe := en_qe B2
  have fz := B2.frozen 67
  have HB := hid hC2
  clear h5 q1 qm hC2 B2
  go_wp2_with fail
  refine (lb_out h5' hps hmn).mono ?_
  rintro e w' ⟨rfl, rfl⟩
  clear h5'
  go_wp2_with fail
  refine bodyPost_ret (results_none rfl _ _ _) rfl ?_
  exact ⟨rfl, _, HB.out, rfl⟩
/-- What an I/O of a member tells, and what it leaves. -/
def tellE (b : Bs) (x : BuM.Ent) (y : St → BuM.Ent) : BuM.Ent := if may b x.m = 0 then y (BuM.at' b.ms x.m) else { x with e := may b x.m }
def tellB (b : Bs) (x : BuM.Ent) (f : St → St) : Bs := if may b x.m = 0 then BuM.upd b x.m (f (BuM.at' b.ms x.m)) else b
theorem lb_ofmIo {g1 g3 : Nat} {Xc : Nat → Prop} {Cp : World → Prop} {fn : FuncId} {cap : Array Value} {x : BuM.Ent} {y : St → BuM.Ent} {f : St → St} {T1 T3 : TypeId} (H : Pp (RepK 0) w g F k b) (hk : k + b.steps.length + 2 ≤ 8000) (hcf : ∀ args w, (callFunc fn args).run Tryz.prog w = .ok (.enter fn args) w)
    (b1 : Blk w g1 T1 #[.pointer (some ⟨g, 0, none⟩)]) (b3 : Blk w g3 T3 #[.func (.func fn) #[] cap]) (n1 : ¬ mutP F g1) (n3 : ¬ mutP F g3)
    (hC0 : Cp w) (hCp : ∀ w w' T, Cp w → Turn T w w' → (∀ q, Xc q → ¬ T q) → Cp w') (hXc : ∀ q, Xc q → q < w.heap.size ∧ ¬ mutP F q)
    (hin : ∀ (w1 : World) (t : Nat) (F1 : Fq) (mi gi : Nat), Pp (RepK 1) w1 g F1 (k + b.steps.length) (BuM.ahead b) → F1.gs[mi]? = some gi → mi < (BuM.ahead b).ms.length → x.m = (mi : Int) → ¬ mutP F1 t → ¬ rdP F1 t → Blk w1 t 57 (enL x).toArray → Cp w1 →
      Calls Tryz.prog fn (#[MbP.at' gi, MbP.at' t] ++ cap) w1 fun e w2 => e = .returned (.tuple #[]) ∧ Blk w2 t 57 (enL (y (BuM.at' (BuM.ahead b).ms (mi : Int)))).toArray ∧ outX (fun q => q = t) (RepK 1) w1 g F1 (k + b.steps.length + 1) { BuM.ahead b with ms := (BuM.ahead b).ms.set mi (f (BuM.at' (BuM.ahead b).ms (mi : Int))) } w2) :
    Calls Tryz.prog 57 #[MbP.at' g, .agg (enL x).toArray, .func (.func 69) #[] #[.pointer (some ⟨g1, 0, none⟩), .pointer (some ⟨g3, 0, none⟩)]] w fun e w' => e = .returned (.agg (enL (tellE (BuM.ahead b) x y)).toArray) ∧ outQ (RepK 0) w g F (k + b.steps.length + 2) (BuM.put (tellB (BuM.ahead b) x f) (tellE (BuM.ahead b) x y)) w' := by
  have hcf2 : ∀ args w, (callFunc 69 args).run Tryz.prog w = .ok (.enter 69 args) w := fun args w => by simp [callFunc, Tryz.func69, Tryz.f69]
  by_cases ho : (BuM.ahead b).off = true
  · have hm : may (BuM.ahead b) x.m = 13 := by unfold BuM.may; rw [if_pos ho]
    refine (lb_io (X := fun _ => False) (D := fun _ => True) (y := x) (b2 := BuM.ahead b) H hk hcf2 (fun q e => e.elim) (fun _ _ _ _ _ _ => trivial) fun h => by rw [ho] at h; cases h).mono ?_
    rintro e w' (⟨_, he, h⟩ | ⟨h, _⟩)
    · unfold tellE tellB
      rw [hm, if_neg (by decide), if_neg (by decide)]
      exact ⟨he, h⟩
    · rw [ho] at h; cases h
  · have hoff : (BuM.ahead b).off = false := by simpa using ho
    by_cases hmm : mem (BuM.ahead b).ms x.m = true
    · have hm : may (BuM.ahead b) x.m = 0 := by unfold BuM.may; rw [if_neg ho, if_pos hmm]
      obtain ⟨mi, hmi, hml⟩ := mem_nat hmm
      refine (lb_io (X := fun _ => False) (D := fun _ => True) (y := y (BuM.at' (BuM.ahead b).ms (mi : Int))) (b2 := { BuM.ahead b with ms := (BuM.ahead b).ms.set mi (f (BuM.at' (BuM.ahead b).ms (mi : Int))) }) H hk hcf2 (fun q e => e.elim) (fun _ _ _ _ _ _ => trivial) fun _ w1 t F1 hP hC ht n1' n2' bt => ?_).mono ?_
      · have hgl : mi < F1.gs.length := by rw [hP.len]; exact hml
        have hg := List.getElem?_eq_getElem hgl
        have tu := hC.2.2.2.2
        refine (lb_ofmIn (g1 := g1) (g3 := g3) (R := fun w2 => Blk w2 t 57 (enL (y (BuM.at' (BuM.ahead b).ms (mi : Int)))).toArray ∧ outX (fun q => q = t ∨ False) (RepK 1) w1 g F1 (k + b.steps.length + 1) { BuM.ahead b with ms := (BuM.ahead b).ms.set mi (f (BuM.at' (BuM.ahead b).ms (mi : Int))) } w2 ∧ True)
          hP hml hg hmi bt (b1.turn tu fun e => e.elim n1 id) (b3.turn tu fun e => e.elim n3 id) hcf fun w2 hb2 => ?_).mono fun e w2 h => ⟨h.1, h.2⟩
        refine (hin w2 t F1 mi _ (hP.belowK hb2) hg hml hmi n1' n2' (bt.below hb2 bt.lt) (hCp _ _ _ (hCp _ _ _ hC0 tu fun q e x => x.elim (hXc q e).2 id) (Turn.of_new (S := fun _ => False) hb2) fun _ _ e => e)).mono ?_
        rintro e w3 ⟨he, h1, h2⟩
        obtain ⟨F3, h3, h4⟩ := Come.ofX h2
        exact ⟨he, h1, (Come.trans (Come.refl _ F1 hb2) h4 fun q e => .inl (.inl e)).toX h3, trivial⟩
      · rintro e w' (⟨h, _⟩ | ⟨_, he, h, _⟩)
        · rw [hoff] at h; cases h
        · unfold tellE tellB
          rw [hm, if_pos rfl, if_pos rfl, hmi]
          obtain ⟨F3, h3, h4⟩ := Come.ofX h
          exact ⟨he, h4.toQ h3⟩
    · have hm : may (BuM.ahead b) x.m = 2 := by unfold BuM.may; rw [if_neg ho, if_neg hmm]
      refine (lb_io (X := fun _ => False) (D := fun _ => True) (y := { x with e := 2 }) (b2 := BuM.ahead b) H hk hcf2 (fun q e => e.elim) (fun _ _ _ _ _ _ => trivial) fun _ w1 t F1 hP hC ht n1' n2' bt => ?_).mono ?_
      · have tu := hC.2.2.2.2
        refine (lb_ofmOut (g1 := g1) (g3 := g3) hP hmm bt (b1.turn tu fun e => e.elim n1 id)).mono ?_
        rintro e w3 ⟨he, w2, hb2, rfl⟩
        have ts := Turn.setCell (S := fun q => q = t) w2 ⟨t, 67, none⟩ (.int .i64 2) rfl
        refine ⟨he, en_setE (bt.below hb2 bt.lt) 2, ?_, trivial⟩
        have hP2 := (hP.belowK hb2).turnK ts fun q e x => by rw [x] at e; exact e.elim n1' n2'
        exact (Come.trans (X := fun q => q = t ∨ False) (Come.refl _ F1 hb2) (Come.touch (X := fun q => q = t) _ F1 ts fun q e => .inl e) fun q e => .inl (.inl e)).toX (hP2.mono (Nat.le_succ _))
      · rintro e w' (⟨h, _⟩ | ⟨_, he, h, _⟩)
        · rw [hoff] at h; cases h
        · unfold tellE tellB
          rw [hm, if_neg (by decide), if_neg (by decide)]
          obtain ⟨F3, h3, h4⟩ := Come.ofX h
          exact ⟨he, h4.toQ h3⟩
end
end BuP
end Go.Proofs.YthogklchmhjjkaaGreat
set_option maxRecDepth 100000
namespace Go.Proofs.YthogklchmhjjkaaGreat
open Go.ChangeShapes Go.WideShapes Go.ChangeAt Go.RowKit
attribute [local go_sem] Gives GivesE
namespace BuP
open BuM MbM MbP MpV
section
variable {w w' : World} {d g k : Nat} {F : Fq} {b : Bs}
set_option maxHeartbeats 600000 in
set_option maxRecDepth 100000 in
theorem lb_ofm {Xc : Nat → Prop} {Cp : World → Prop} {fn : FuncId} {cap : Array Value} {x : BuM.Ent} {y : St → BuM.Ent} {f : St → St} (H : Pp (RepK 0) w g F k b) (hk : k + b.steps.length + 2 ≤ 8000) (hcf : ∀ args w, (callFunc fn args).run Tryz.prog w = .ok (.enter fn args) w)
    (hC0 : Cp w) (hCp : ∀ w w' T, Cp w → Turn T w w' → (∀ q, Xc q → ¬ T q) → Cp w') (hXc : ∀ q, Xc q → q < w.heap.size ∧ ¬ mutP F q)
    (hin : ∀ (w1 : World) (t : Nat) (F1 : Fq) (mi gi : Nat), Pp (RepK 1) w1 g F1 (k + b.steps.length) (BuM.ahead b) → F1.gs[mi]? = some gi → mi < (BuM.ahead b).ms.length → x.m = (mi : Int) → ¬ mutP F1 t → ¬ rdP F1 t → Blk w1 t 57 (enL x).toArray → Cp w1 →
      Calls Tryz.prog fn (#[MbP.at' gi, MbP.at' t] ++ cap) w1 fun e w2 => e = .returned (.tuple #[]) ∧ Blk w2 t 57 (enL (y (BuM.at' (BuM.ahead b).ms (mi : Int)))).toArray ∧ outX (fun q => q = t) (RepK 1) w1 g F1 (k + b.steps.length + 1) { BuM.ahead b with ms := (BuM.ahead b).ms.set mi (f (BuM.at' (BuM.ahead b).ms (mi : Int))) } w2) :
    Calls Tryz.prog 43 #[MbP.at' g, .agg (enL x).toArray, .func (.func fn) #[] cap] w fun e w' => e = .returned (.agg (enL (tellE (BuM.ahead b) x y)).toArray) ∧ outQ (RepK 0) w g F (k + b.steps.length + 2) (BuM.put (tellB (BuM.ahead b) x f) (tellE (BuM.ahead b) x y)) w' := by
  have HH := hid H
  have HC := hid hC0
  have HCp := hid hCp
  have HX := hid hXc
  have HI := hid hin
  have HF := hid hcf
  clear H hC0 hCp hXc hin hcf
  unfold MbP.at'
  go_enter Tryz.func43, Tryz.ntmps43
  go_upto_region 1 with (with_reducible apply alZ' zEnP)
  simp only [Act.put, List.setIfInBounds_toArray, List.set_cons_succ, List.set_cons_zero]
  generalize hwa : World.alloc w _ = wa
  generalize hwb : World.alloc wa _ = wb
  generalize hwc : World.alloc wb _ = wc
  generalize hwd : World.alloc wc _ = wd
  obtain ⟨g1, hg1⟩ : ∃ n, n = w.heap.size := ⟨_, rfl⟩
  obtain ⟨g2, hg2⟩ : ∃ n, n = w.heap.size + 1 := ⟨_, rfl⟩
  obtain ⟨g3, hg3⟩ : ∃ n, n = w.heap.size + 1 + 1 := ⟨_, rfl⟩
  obtain ⟨g4, hg4⟩ : ∃ n, n = wc.heap.size := ⟨_, rfl⟩
  have ba : Below w.heap.size w wa := by rw [← hwa]; exact (Below.refl _ _).alloc (Nat.le_refl _) _
  have bb : Below wa.heap.size wa wb := by rw [← hwb]; exact (Below.refl _ _).alloc (Nat.le_refl _) _
  have bc : Below wb.heap.size wb wc := by rw [← hwc]; exact (Below.refl _ _).alloc (Nat.le_refl _) _
  have bd : Below wc.heap.size wc wd := by rw [← hwd]; exact (Below.refl _ _).alloc (Nat.le_refl _) _
  have sa1 : wa.heap.size = w.heap.size + 1 := by rw [← hwa]; simp
  have sb1 : wb.heap.size = w.heap.size + 1 + 1 := by rw [← hwb, ← sa1]; simp
  have k1 : Blk wa g1 34 #[.pointer (some ⟨g, 0, none⟩)] := by rw [← hwa, hg1]; exact Blk.new _ _ _
  have k2 : Blk wb g2 57 (enL x).toArray := by rw [← hwb, hg2, ← sa1]; exact Blk.new _ _ _
  have k3 : Blk wc g3 110 #[.func (.func fn) #[] cap] := by rw [← hwc, hg3, ← sb1]; exact Blk.new _ _ _
  have k4 : Blk wd g4 57 (enL enP0).toArray := by rw [← hwd, hg4]; exact Blk.new _ _ _
  have sa := ba.size
  have sb := bb.size
  have sc := bc.size
  have BEL := hid (((ba.trans (bb.mono sa)).trans (bc.mono (Nat.le_trans sa sb))).trans (bd.mono (Nat.le_trans sa (Nat.le_trans sb sc))))
  have K1 := hid (((k1.below bb k1.lt).below bc (Nat.lt_of_lt_of_le k1.lt sb)).below bd (Nat.lt_of_lt_of_le k1.lt (Nat.le_trans sb sc)))
  have K2 := hid ((k2.below bc k2.lt).below bd (Nat.lt_of_lt_of_le k2.lt sc))
  have K3 := hid (k3.below bd k3.lt)
  have K4 := hid k4
  rw [← hg4, ← hg3, ← hg2, ← hg1]
  have n1 : ¬ mutP F g1 := fun e => by have := HH.out.mlt g1 e; omega
  have n3 : ¬ mutP F g3 := fun e => by have := HH.out.mlt g3 e; omega
  have n4 : ¬ mutP F g4 ∧ ¬ rdP F g4 := ⟨fun e => by have := HH.out.mlt g4 e; omega, fun e => by have := HH.out.ilt g4 e; omega⟩
  have h4w := hid (show w.heap.size ≤ g4 by omega)
  have q1 : wd.cell? ⟨g1, 0, none⟩ = some (.pointer (some ⟨g, 0, none⟩)) := K1.out.cell 0
  clear sa1 sb1 hwa hwb hwc hwd hg1 hg2 hg3 hg4 ba bb bc bd k1 k2 k3 k4 sa sb sc
  have H1 := hid (HH.out.belowK BEL.out)
  go_wp2_with ((with_reducible apply ldR (cs := (enL x).toArray) (tEnP x)); rfl; exact K2.out.whole)
  clear q1
  refine (lb_ofmIo H1.out hk HF.out K1.out K3.out n1 n3 (HCp.out _ _ _ HC.out (Turn.of_new (S := fun _ => False) BEL.out) fun _ _ e => e) HCp.out (fun q e => ⟨Nat.lt_of_lt_of_le (HX.out q e).1 BEL.out.size, (HX.out q e).2⟩) HI.out).mono ?_
  rintro e w2 ⟨rfl, ho⟩
  obtain ⟨F2, hP2, hC2⟩ := Come.ofQ ho
  have K4' := hid (K4.out.turn hC2.2.2.2.2 fun e => e.elim n4.1 id)
  have h4l := K4.out.lt
  have n5 : ¬ mutP F2 g4 ∧ ¬ rdP F2 g4 := ⟨fun e => by
    rcases hC2.2.2.1 g4 e with y | y
    · exact n4.1 y
    · omega, fun e => by
    rcases hC2.2.2.2.1 g4 e with y | y | y
    · exact n4.1 y
    · exact n4.2 y
    · omega⟩
  have P2 := hid hP2
  have C2 := hid ((Come.refl (fun _ => False) F BEL.out).trans hC2 fun _ e => e.elim)
  obtain ⟨z, hz⟩ : ∃ z, z = tellE (BuM.ahead b) x y := ⟨_, rfl⟩
  have HZ := hid hz
  rw [← hz] at hP2
  clear ho hP2 hC2 K1 K2 K3 K4 H1 HC HI HF HX HCp h4l n4 n1 n3 hz
  rw [← HZ.out]
  go_wp2_with ((with_reducible apply stR (tEnP z)); rfl; rfl; exact K4'.out; exact en_size _ _; exact en_one' _)
  generalize hw6 : World.setRow w2 _ _ = w6
  have R6 := hid (show Blk w6 g4 57 (enL z).toArray by rw [← hw6]; exact K4'.out.setRow_same _)
  have T6 := hid (show Turn (fun q => q = g4) w2 w6 by rw [← hw6]; exact Turn.setRow _ _ _ rfl)
  have P6 := hid (P2.out.turnK T6.out fun q e x => by rw [x] at e; exact e.elim n5.1 n5.2)
  have C6 := hid (show Come (fun _ => False) w F w6 F2 from C2.out.trans (Come.touch (X := fun q => q = g4) _ F2 T6.out fun q e => .inl e) fun q e => .inr (e ▸ h4w.out))
  clear hw6 P2 C2 K4' n5
  apply ret_row' (tEnP z) Tryz.results43
  · rfl
  · rfl
  · exact R6.out
  have h9 := C6.out.toQ P6.out
  exact ⟨by rw [HZ.out], h9⟩
end
end BuP
end Go.Proofs.YthogklchmhjjkaaGreat
set_option maxRecDepth 100000
namespace Go.Proofs.YthogklchmhjjkaaGreat
open Go.ChangeShapes Go.WideShapes Go.ChangeAt Go.RowKit
attribute [local go_sem] Gives GivesE
namespace BuP
open BuM MbM MbP MpV
section
variable {ops : Array Oper} {Q : Exit → Act → World → Prop} {a : Act} {w : World} {rest : List Oper} {dst : Option Tmp} {ty : TypeId} {pos : String} {after : Array Edge} {x y z : Operand} {m i : Int} {s : Nat → Nat}
theorem wbpRd (hx : a.eval x = .int .i64 m) (hy : a.eval y = .int .i64 i) (hk : wpList Tryz.prog ops Q rest (a.put dst (.agg (enL ⟨1, m, i, fun _ => 0, 0⟩).toArray)) w) : wpList Tryz.prog ops Q (⟨dst, .build 57 #[(0, .const (.int .i64 1)), (1, x), (2, y)], ty, pos, after, none⟩ :: rest) a w := by
  have hr : (Instr.build 57 #[(0, .int .i64 1), (1, .int .i64 m), (2, .int .i64 i)]).run Tryz.prog w = .ok (.agg (enL ⟨1, m, i, fun _ => 0, 0⟩).toArray) w := run_build w _ _ _ (by kernel_rfl)
  have hm : (#[(0, .const (.int .i64 1)), (1, x), (2, y)] : Array (Nat × Operand)).map (fun (i, x) => (i, a.eval x)) = #[(0, .int .i64 1), (1, .int .i64 m), (2, .int .i64 i)] := by
    simp only [List.map_toArray, List.map_cons, List.map_nil, hx, hy]; rfl
  refine wpList_plain rfl fun K hK => ?_
  unfold Oper.wp execOp
  simp only [Sem.run_bind, hm, hr, Result.andThen_ok, Sem.run_pure]
  exact hK _ _ hk
theorem wbpWr (hx : a.eval x = .int .i64 m) (hy : a.eval y = .int .i64 i) (hz : a.eval z = .agg (ar 64 s)) (hk : wpList Tryz.prog ops Q rest (a.put dst (.agg (enL ⟨2, m, i, s, 0⟩).toArray)) w) : wpList Tryz.prog ops Q (⟨dst, .build 57 #[(0, .const (.int .i64 2)), (1, x), (2, y), (3, z)], ty, pos, after, none⟩ :: rest) a w := by
  have hr : (Instr.build 57 #[(0, .int .i64 2), (1, .int .i64 m), (2, .int .i64 i), (3, .agg (ar 64 s))]).run Tryz.prog w = .ok (.agg (enL ⟨2, m, i, s, 0⟩).toArray) w := run_build w _ _ _ (by kernel_rfl)
  have hm : (#[(0, .const (.int .i64 2)), (1, x), (2, y), (3, z)] : Array (Nat × Operand)).map (fun (i, x) => (i, a.eval x)) = #[(0, .int .i64 2), (1, .int .i64 m), (2, .int .i64 i), (3, .agg (ar 64 s))] := by
    simp only [List.map_toArray, List.map_cons, List.map_nil, hx, hy, hz]; rfl
  refine wpList_plain rfl fun K hK => ?_
  unfold Oper.wp execOp
  simp only [Sem.run_bind, hm, hr, Result.andThen_ok, Sem.run_pure]
  exact hK _ _ hk
theorem wbpFl (hx : a.eval x = .int .i64 m) (hk : wpList Tryz.prog ops Q rest (a.put dst (.agg (enL ⟨3, m, 0, fun _ => 0, 0⟩).toArray)) w) : wpList Tryz.prog ops Q (⟨dst, .build 57 #[(0, .const (.int .i64 3)), (1, x)], ty, pos, after, none⟩ :: rest) a w := by
  have hr : (Instr.build 57 #[(0, .int .i64 3), (1, .int .i64 m)]).run Tryz.prog w = .ok (.agg (enL ⟨3, m, 0, fun _ => 0, 0⟩).toArray) w := run_build w _ _ _ (by kernel_rfl)
  have hm : (#[(0, .const (.int .i64 3)), (1, x)] : Array (Nat × Operand)).map (fun (i, x) => (i, a.eval x)) = #[(0, .int .i64 3), (1, .int .i64 m)] := by
    simp only [List.map_toArray, List.map_cons, List.map_nil, hx]; rfl
  refine wpList_plain rfl fun K hK => ?_
  unfold Oper.wp execOp
  simp only [Sem.run_bind, hm, hr, Result.andThen_ok, Sem.run_pure]
  exact hK _ _ hk
theorem wfldE {E : BuM.Ent} (hx : a.eval x = .agg (enL E).toArray) (hk : wpList Tryz.prog ops Q rest (a.put dst (.int .i64 E.e)) w) : wpList Tryz.prog ops Q (⟨dst, .field 57 x 4, ty, pos, after, none⟩ :: rest) a w := by
  have hr : (Instr.field 57 (.agg (enL E).toArray) 4).run Tryz.prog w = .ok (.int .i64 E.e) w := by kernel_rfl
  refine wpList_plain rfl fun K hK => ?_
  unfold Oper.wp execOp
  simp only [hx, hr, Sem.run_bind, Result.andThen_ok, Sem.run_pure]
  exact hK _ _ hk
end
section
variable {w w' : World} {d g k : Nat} {F : Fq} {b : Bs}
theorem hcf_rd (args : Array Value) (w : World) : (callFunc 44 args).run Tryz.prog w = .ok (.enter 44 args) w := by
  simp [callFunc, Tryz.func44, Tryz.f44]
theorem hcf_wr (args : Array Value) (w : World) : (callFunc 47 args).run Tryz.prog w = .ok (.enter 47 args) w := by
  simp [callFunc, Tryz.func47, Tryz.f47]
theorem hcf_fl (args : Array Value) (w : World) : (callFunc 54 args).run Tryz.prog w = .ok (.enter 54 args) w := by
  simp [callFunc, Tryz.func54, Tryz.f54]
/-- What a member's call leaves, and the entry told behind it. -/
theorem told_out {w2 w3 : World} {t mi gi : Nat} {st st' : St} {x y : BuM.Ent} (H : Pp (RepK d) w g F k b) (hgi : F.gs[mi]? = some gi) (hst : BuM.at' b.ms (mi : Int) = st) (hm : mi < b.ms.length) (nt : ¬ mutP F t ∧ ¬ rdP F t) (bt : Blk w t 57 (enL x).toArray) (ho : outP RepM w gi (F.Ms mi) (F.Is mi) (k + 1) st' w2) (hok : st'.ok)
    (ht : Turn (fun q => q = t) w2 w3) (hb : Blk w2 t 57 (enL x).toArray → Blk w3 t 57 (enL y).toArray) : Blk w3 t 57 (enL y).toArray ∧ outX (fun q => q = t) (RepK d) w g F (k + 1) { b with ms := b.ms.set mi st' } w3 := by
  obtain ⟨F2, hP, hC⟩ := Come.ofQ (Pp.put (repB := RepK d) (repK_fr d) H hgi ho (Nat.le_succ _) hok)
  have hl := bt.lt
  have n2 : ¬ mutP F2 t ∧ ¬ rdP F2 t := ⟨fun e => (hC.2.2.1 t e).elim nt.1 fun y => by omega, fun e => by
    rcases hC.2.2.2.1 t e with y | y | y
    · exact nt.1 y
    · exact nt.2 y
    · omega⟩
  refine ⟨hb (bt.turn hC.2.2.2.2 fun e => e.elim nt.1 id), ?_⟩
  exact (Come.trans (X := fun q => q = t) (Come.trans (X := fun q => q = t) (Come.refl _ F (Below.refl _ _)) hC fun _ e => e.elim) (Come.touch (X := fun q => q = t) _ F2 ht fun q e => .inl e) fun q e => .inl e).toX (hP.turnK ht fun q e x => by rw [x] at e; exact e.elim n2.1 n2.2)
end
end BuP
end Go.Proofs.YthogklchmhjjkaaGreat
set_option maxRecDepth 100000
namespace Go.Proofs.YthogklchmhjjkaaGreat
open Go.ChangeShapes Go.WideShapes Go.ChangeAt Go.RowKit
attribute [local go_sem] Gives GivesE
namespace BuP
open BuM MbM MbP MpV
section
variable {w w' : World} {d g k : Nat} {F : Fq} {b : Bs}
set_option maxRecDepth 100000 in
theorem lb_rd1 {t mi gi gI : Nat} {m i : Int} {T1 : TypeId} (H : Pp (RepK d) w g F k b) (hk : k ≤ 9000) (hgi : F.gs[mi]? = some gi) (hm : mi < b.ms.length) (n1 : ¬ mutP F t) (n2 : ¬ rdP F t) (bt : Blk w t 57 (enL ⟨1, m, i, fun _ => 0, 0⟩).toArray) (bi : Blk w gI T1 #[.int .i64 i]) :
    Calls Tryz.prog 44 #[MbP.at' gi, MbP.at' t, .pointer (some ⟨gI, 0, none⟩)] w fun e w2 => e = .returned (.tuple #[]) ∧ Blk w2 t 57 (enL ⟨1, m, i, rdS (BuM.at' b.ms (mi : Int)) i, rdE (BuM.at' b.ms (mi : Int)) i⟩).toArray ∧
      outX (fun q => q = t) (RepK d) w g F (k + 1) { b with ms := b.ms.set mi (BuM.at' b.ms (mi : Int)) } w2 := by
  obtain ⟨gi', st, A, c, bA, oA, h1, h2, h3, h4, _, _, _, _⟩ := H.at hm
  rw [hgi] at h1
  cases h1
  rw [h4]
  have HH := hid H
  have R := hid h3
  have hok := hid (H.ok.1 st (List.mem_of_getElem? h2))
  have BT := hid bt
  have q1 : w.cell? ⟨gI, 0, none⟩ = some (.int .i64 i) := bi.cell 0
  have HG := hid hgi
  have HS := hid h4
  have N := hid (And.intro n1 n2)
  clear H h2 h3 h4 bt bi hgi n1 n2
  unfold MbP.at'
  go_enter Tryz.func44, Tryz.ntmps44
  go_wp2_with fail
  refine (MbP.memB_ok.read R.out hok.out hk i).mono ?_
  rintro e w2 ⟨rfl, hb⟩
  obtain ⟨sv, hsv⟩ : ∃ s, s = rdS st i := ⟨_, rfl⟩
  obtain ⟨ev, hev⟩ : ∃ s, s = rdE st i := ⟨_, rfl⟩
  have B2 := hid (BT.out.below hb BT.out.lt)
  have th := hid (show w2.there t 3 (ar 64 sv).size by rw [size_ar]; exact en_there (o := 3) (n := 64) B2.out (by omega))
  have B3 := hid (en_setS B2.out sv)
  have HF := hid (fun (w3 : World) (ht : Turn (fun q => q = t) w2 w3) (h5 : Blk w3 t 57 (enL ⟨1, m, i, sv, ev⟩).toArray) =>
    told_out (y := ⟨1, m, i, sv, ev⟩) HH.out HG.out HS.out hm N.out BT.out (st' := st) ⟨_, _, MbP.memB_ok.mono (MbP.memB_ok.frame R.out (T := fun _ => False) (Turn.of_new hb) fun _ _ e => e) (Nat.le_succ _), fun _ e => .inl e, fun _ e => .inr (.inl e), Turn.of_new hb⟩ hok.out ht fun _ => h5)
  have HSV := hid hsv
  have HEV := hid hev
  rw [← hsv, ← hev]
  clear q1 R BT hb HH hsv hev
  have q67 : (w2.setCells t 3 (ar 64 sv).toList).cell? ⟨t, 67, none⟩ = some (.int .i64 0) := en_qe B3.out
  have fz := B3.out.frozen 67
  have ts := turn_setCells (g := t) (ar 64 sv).toList 3 w2
  have tu := Turn.setCell (S := fun q => q = t) (w2.setCells t 3 (ar 64 sv).toList) ⟨t, 67, none⟩ (.int .i64 ev) rfl
  have E4 := hid (HF.out _ (ts.trans tu fun q e => .inl e) (en_setE B3.out ev))
  clear ts tu HF
  go_wp2_with ((with_reducible apply stRM (cs := ar 64 sv) tSeR); rfl; rfl; exact th.out; exact ar_one)
  refine bodyPost_end (results_none rfl _ _ _) rfl ?_
  exact ⟨rfl, by have h9 := E4.out; have h8 := HEV.out; have h7 := HSV.out; subst h8; subst h7; exact h9⟩
set_option maxRecDepth 100000 in
theorem lb_wr1 {t mi gi gI gX : Nat} {m i : Int} {x : Nat → Nat} {T1 T2 : TypeId} (H : Pp (RepK d) w g F k b) (hk : k ≤ 9000) (hx : ∀ j, x j < 256) (hgi : F.gs[mi]? = some gi) (hm : mi < b.ms.length) (n1 : ¬ mutP F t) (n2 : ¬ rdP F t) (bt : Blk w t 57 (enL ⟨2, m, i, x, 0⟩).toArray) (bi : Blk w gI T1 #[.int .i64 i]) (bx : Blk w gX T2 (ar 64 x)) :
    Calls Tryz.prog 47 #[MbP.at' gi, MbP.at' t, .pointer (some ⟨gI, 0, none⟩), .pointer (some ⟨gX, 0, none⟩)] w fun e w2 => e = .returned (.tuple #[]) ∧ Blk w2 t 57 (enL ⟨2, m, i, x, rdE (BuM.at' b.ms (mi : Int)) i⟩).toArray ∧
      outX (fun q => q = t) (RepK d) w g F (k + 1) { b with ms := b.ms.set mi (wrT (BuM.at' b.ms (mi : Int)) i x) } w2 := by
  obtain ⟨gi', st, A, c, bA, oA, h1, h2, h3, h4, _, _, _, _⟩ := H.at hm
  rw [hgi] at h1
  cases h1
  rw [h4]
  have HH := hid H
  have R := hid h3
  have hok := hid (H.ok.1 st (List.mem_of_getElem? h2))
  have BT := hid bt
  have BX := hid bx
  have q1 : w.cell? ⟨gI, 0, none⟩ = some (.int .i64 i) := bi.cell 0
  have HG := hid hgi
  have HS := hid h4
  have N := hid (And.intro n1 n2)
  have HX := hid hx
  clear H h2 h3 h4 bt bi bx hgi n1 n2 hx
  unfold MbP.at'
  go_enter Tryz.func47, Tryz.ntmps47
  go_wp2_with ((with_reducible apply ldA tSe); rfl; exact BX.out)
  refine (MbP.memB_ok.write R.out hok.out hk i x HX.out).mono ?_
  rintro e w2 ⟨rfl, ho⟩
  obtain ⟨ev, hev⟩ : ∃ s, s = rdE st i := ⟨_, rfl⟩
  have HO := hid ho
  have tn : Blk w2 t 57 (enL ⟨2, m, i, x, 0⟩).toArray := by
    obtain ⟨M', I', _, _, _, ht⟩ := ho
    exact BT.out.turn ht fun e => N.out.1 (.inr (.inr ⟨mi, (List.getElem?_eq_some_iff.1 HG.out).1, e⟩))
  have B2 := hid tn
  have HEV := hid hev
  rw [← hev]
  clear q1 R ho tn hev BX
  have q67 : w2.cell? ⟨t, 67, none⟩ = some (.int .i64 0) := en_qe B2.out
  have fz := B2.out.frozen 67
  have tu := Turn.setCell (S := fun q => q = t) w2 ⟨t, 67, none⟩ (.int .i64 ev) rfl
  have E4 := hid (told_out (y := ⟨2, m, i, x, ev⟩) HH.out HG.out HS.out hm N.out BT.out HO.out (wr_ok hok.out i HX.out) tu fun h => en_setE h ev)
  clear tu HO HH
  go_wp2_with fail
  refine bodyPost_end (results_none rfl _ _ _) rfl ?_
  exact ⟨rfl, by have h9 := E4.out; have h8 := HEV.out; subst h8; exact h9⟩
set_option maxRecDepth 100000 in
theorem lb_fl1 {t mi gi : Nat} {m : Int} (H : Pp (RepK d) w g F k b) (hk : k ≤ 9000) (hgi : F.gs[mi]? = some gi) (hm : mi < b.ms.length) (n1 : ¬ mutP F t) (n2 : ¬ rdP F t) (bt : Blk w t 57 (enL ⟨3, m, 0, fun _ => 0, 0⟩).toArray) :
    Calls Tryz.prog 54 #[MbP.at' gi, MbP.at' t] w fun e w2 => e = .returned (.tuple #[]) ∧ Blk w2 t 57 (enL ⟨3, m, 0, fun _ => 0, MbM.flE (BuM.at' b.ms (mi : Int))⟩).toArray ∧
      outX (fun q => q = t) (RepK d) w g F (k + 1) { b with ms := b.ms.set mi (MbM.flT (BuM.at' b.ms (mi : Int))) } w2 := by
  obtain ⟨gi', st, A, c, bA, oA, h1, h2, h3, h4, _, _, _, _⟩ := H.at hm
  rw [hgi] at h1
  cases h1
  rw [h4]
  have HH := hid H
  have R := hid h3
  have hok := hid (H.ok.1 st (List.mem_of_getElem? h2))
  have BT := hid bt
  have HG := hid hgi
  have HS := hid h4
  have N := hid (And.intro n1 n2)
  clear H h2 h3 h4 bt hgi n1 n2
  unfold MbP.at'
  go_enter Tryz.func54, Tryz.ntmps54
  go_wp2_with fail
  refine (MbP.memB_ok.flush R.out hok.out hk).mono ?_
  rintro e w2 ⟨rfl, ho⟩
  obtain ⟨ev, hev⟩ : ∃ s, s = MbM.flE st := ⟨_, rfl⟩
  have HO := hid ho
  have tn : Blk w2 t 57 (enL ⟨3, m, 0, fun _ => 0, 0⟩).toArray := by
    obtain ⟨M', I', _, _, _, ht⟩ := ho
    exact BT.out.turn ht fun e => N.out.1 (.inr (.inr ⟨mi, (List.getElem?_eq_some_iff.1 HG.out).1, e⟩))
  have B2 := hid tn
  have HEV := hid hev
  rw [← hev]
  clear R ho tn hev
  have q67 : w2.cell? ⟨t, 67, none⟩ = some (.int .i64 0) := en_qe B2.out
  have fz := B2.out.frozen 67
  have tu := Turn.setCell (S := fun q => q = t) w2 ⟨t, 67, none⟩ (.int .i64 ev) rfl
  have E4 := hid (told_out (y := ⟨3, m, 0, fun _ => 0, ev⟩) HH.out HG.out HS.out hm N.out BT.out HO.out (fl_ok hok.out) tu fun h => en_setE h ev)
  clear tu HO HH
  go_wp2_with fail
  refine bodyPost_end (results_none rfl _ _ _) rfl ?_
  exact ⟨rfl, by have h9 := E4.out; have h8 := HEV.out; subst h8; exact h9⟩
end
end BuP
end Go.Proofs.YthogklchmhjjkaaGreat
set_option maxRecDepth 100000
namespace Go.Proofs.YthogklchmhjjkaaGreat
open Go.ChangeShapes Go.WideShapes Go.ChangeAt Go.RowKit
attribute [local go_sem] Gives GivesE
namespace BuP
open BuM MbM MbP MpV
section
variable {w w' : World} {d g k : Nat} {F : Fq} {b : Bs}
theorem tell_rd (b : Bs) (m i : Int) : tellE b ⟨1, m, i, fun _ => 0, 0⟩ (fun st => ⟨1, m, i, rdS st i, rdE st i⟩) = rdB b m i := by
  unfold tellE rdB
  split <;> rfl
theorem tell_id (b : Bs) (x : BuM.Ent) : tellB b x (fun st => st) = b := by
  unfold tellB
  split
  · unfold BuM.upd
    rw [lb_setAt]
  · rfl
theorem tell_wr (b : Bs) (m i : Int) (x : Nat → Nat) : tellE b ⟨2, m, i, x, 0⟩ (fun st => ⟨2, m, i, x, rdE st i⟩) = wrB b m i x := by
  unfold tellE wrB
  show (if BuM.may b m = 0 then _ else _) = _
  split <;> rfl
theorem tell_fl (b : Bs) (m : Int) : tellE b ⟨3, m, 0, fun _ => 0, 0⟩ (fun st => ⟨3, m, 0, fun _ => 0, MbM.flE st⟩) = flB b m := by
  unfold tellE flB
  show (if BuM.may b m = 0 then _ else _) = _
  split <;> rfl
theorem lb_ofmRd {gI : Nat} (H : Pp (RepK 0) w g F k b) (hk : k + b.steps.length + 2 ≤ 8000) (m i : Int) (bi : Blk w gI 3 #[.int .i64 i]) (ni : ¬ mutP F gI) :
    Calls Tryz.prog 43 #[MbP.at' g, .agg (enL ⟨1, m, i, fun _ => 0, 0⟩).toArray, .func (.func 44) #[] #[.pointer (some ⟨gI, 0, none⟩)]] w fun e w' => e = .returned (.agg (enL (rdB (BuM.ahead b) m i)).toArray) ∧ outQ (RepK 0) w g F (k + b.steps.length + 2) (BuM.rdT b m i) w' := by
  have h := lb_ofm (Xc := fun q => q = gI) (Cp := fun w => Blk w gI 3 #[.int .i64 i]) (cap := #[.pointer (some ⟨gI, 0, none⟩)]) (x := ⟨1, m, i, fun _ => 0, 0⟩) (y := fun st => ⟨1, m, i, rdS st i, rdE st i⟩) (f := fun st => st) H hk hcf_rd bi (fun w w' T h1 h2 h3 => h1.turn h2 (h3 gI rfl)) (fun q e => by rw [e]; exact ⟨bi.lt, ni⟩)
    fun w1 t F1 mi gi hP hg hm hx n1 n2 bt bc => lb_rd1 hP (by have := hP.sz; omega) hg hm n1 n2 bt bc
  rw [tell_rd, tell_id] at h
  exact h
theorem lb_ofmWr {gI gX : Nat} (H : Pp (RepK 0) w g F k b) (hk : k + b.steps.length + 2 ≤ 8000) (m i : Int) (x : Nat → Nat) (hx : ∀ j, x j < 256) (bi : Blk w gI 3 #[.int .i64 i]) (bx : Blk w gX 43 (ar 64 x)) (ni : ¬ mutP F gI) (nx : ¬ mutP F gX) :
    Calls Tryz.prog 43 #[MbP.at' g, .agg (enL ⟨2, m, i, x, 0⟩).toArray, .func (.func 47) #[] #[.pointer (some ⟨gI, 0, none⟩), .pointer (some ⟨gX, 0, none⟩)]] w fun e w' => e = .returned (.agg (enL (wrB (BuM.ahead b) m i x)).toArray) ∧ outQ (RepK 0) w g F (k + b.steps.length + 2) (BuM.wrT b m i x) w' := by
  have h := lb_ofm (Xc := fun q => q = gI ∨ q = gX) (Cp := fun w => Blk w gI 3 #[.int .i64 i] ∧ Blk w gX 43 (ar 64 x)) (cap := #[.pointer (some ⟨gI, 0, none⟩), .pointer (some ⟨gX, 0, none⟩)]) (x := ⟨2, m, i, x, 0⟩) (y := fun st => ⟨2, m, i, x, rdE st i⟩) (f := fun st => MbM.wrT st i x) H hk hcf_wr ⟨bi, bx⟩ (fun w w' T h1 h2 h3 => ⟨h1.1.turn h2 (h3 gI (.inl rfl)), h1.2.turn h2 (h3 gX (.inr rfl))⟩) (fun q e => by rcases e with e | e <;> rw [e] <;> first | exact ⟨bi.lt, ni⟩ | exact ⟨bx.lt, nx⟩)
    fun w1 t F1 mi gi hP hg hm _ n1 n2 bt bc => lb_wr1 hP (by have := hP.sz; omega) hx hg hm n1 n2 bt bc.1 bc.2
  rw [tell_wr] at h
  exact h
theorem lb_ofmFl (H : Pp (RepK 0) w g F k b) (hk : k + b.steps.length + 2 ≤ 8000) (m : Int) :
    Calls Tryz.prog 43 #[MbP.at' g, .agg (enL ⟨3, m, 0, fun _ => 0, 0⟩).toArray, .func (.func 54) #[] #[]] w fun e w' => e = .returned (.agg (enL (flB (BuM.ahead b) m)).toArray) ∧ outQ (RepK 0) w g F (k + b.steps.length + 2) (BuM.flT b m) w' := by
  have h := lb_ofm (Xc := fun _ => False) (Cp := fun _ => True) (cap := #[]) (x := ⟨3, m, 0, fun _ => 0, 0⟩) (y := fun st => ⟨3, m, 0, fun _ => 0, MbM.flE st⟩) (f := fun st => MbM.flT st) H hk hcf_fl trivial (fun _ _ _ _ _ _ => trivial) (fun q e => e.elim)
    fun w1 t F1 mi gi hP hg hm _ n1 n2 bt _ => lb_fl1 hP (by have := hP.sz; omega) hg hm n1 n2 bt
  rw [tell_fl] at h
  exact h
set_option maxHeartbeats 600000 in
set_option maxRecDepth 100000 in
theorem lb_read (H : Pp (RepK 0) w g F k b) (hk : k + b.steps.length + 2 ≤ 8000) (m i : Int) : Calls Tryz.prog 13 #[MbP.at' g, .int .i64 m, .int .i64 i] w fun e w' => e = .returned (.tuple #[.agg (ar 64 (BuM.rdB (BuM.ahead b) m i).s), .int .i64 (BuM.rdB (BuM.ahead b) m i).e]) ∧ outQ (RepK 0) w g F (k + b.steps.length + 2) (BuM.rdT b m i) w' := by
  have HH := hid H
  clear H
  unfold MbP.at'
  go_enter Tryz.func13, Tryz.ntmps13
  go_upto_region 1 with (with_reducible apply alA tSe)
  try simp only [Act.put, List.setIfInBounds_toArray, List.set_cons_succ, List.set_cons_zero]
  generalize hw0 : World.alloc w _ = w0
  generalize hw1 : World.alloc w0 _ = w1
  obtain ⟨gI, hgI⟩ : ∃ n, n = w.heap.size := ⟨_, rfl⟩
  obtain ⟨gR, hgR⟩ : ∃ n, n = w.heap.size + 1 := ⟨_, rfl⟩
  have hs0 : w0.heap.size = w.heap.size + 1 := by rw [← hw0]; simp
  have bI := hid (show Blk w1 gI 3 #[.int .i64 i] by rw [← hw1, ← hw0, hgI]; exact (Blk.new _ _ _).alloc _)
  have bR := hid (show Blk w1 gR 43 (ar 64 fun _ => 0) by rw [← hw1, hgR, ← hs0]; exact Blk.new _ _ _)
  have BEL := hid (show Below w.heap.size w w1 by rw [← hw1, ← hw0]; exact ((Below.refl _ _).alloc (Nat.le_refl _) _).alloc (by simp) _)
  have nI : ¬ mutP F gI := fun e => by have := HH.out.mlt gI e; omega
  have nR : ¬ mutP F gR ∧ ¬ rdP F gR := ⟨fun e => by have := HH.out.mlt gR e; omega, fun e => by have := HH.out.ilt gR e; omega⟩
  have hRw := hid (show w.heap.size ≤ gR by omega)
  rw [← hgR, ← hgI]
  clear hw1 hw0 hs0 hgI hgR
  have H1 := hid (HH.out.belowK BEL.out)
  have qI : w1.cell? ⟨gI, 0, none⟩ = some (.int .i64 i) := bI.out.cell 0
  go_wp2_with ((with_reducible apply wbpRd); rfl; rfl)
  refine (lb_ofmRd H1.out hk m i bI.out nI).mono ?_
  rintro e w2 ⟨rfl, ho⟩
  obtain ⟨z, hz⟩ : ∃ z, z = rdB (BuM.ahead b) m i := ⟨_, rfl⟩
  have HZ := hid hz
  obtain ⟨F2, hP2, hC2⟩ := Come.ofQ ho
  have R2 := hid (bR.out.turn hC2.2.2.2.2 fun e => e.elim nR.1 id)
  have hrl := bR.out.lt
  have n2 : ¬ mutP F2 gR ∧ ¬ rdP F2 gR := ⟨fun e => (hC2.2.2.1 gR e).elim nR.1 fun y => by omega, fun e => by
    rcases hC2.2.2.2.1 gR e with y | y | y
    · exact nR.1 y
    · exact nR.2 y
    · omega⟩
  have P2 := hid hP2
  have C2 := hid ((Come.refl (fun _ => False) F BEL.out).trans hC2 fun _ e => e.elim)
  have hrl2 := R2.out.lt
  rw [← hz]
  clear qI ho hP2 hC2 bI bR H1 hrl nI nR hz
  go_upto_region 2 with (first | (with_reducible apply alZ' zEnP) | ((with_reducible apply stR (tEnP z)); rfl; rfl; exact Blk.new _ _ _; exact en_size _ _; exact en_one' _))
  generalize hw3 : World.setRow _ _ _ = w3
  obtain ⟨gE, hgE⟩ : ∃ n, n = w2.heap.size := ⟨_, rfl⟩
  have B3 := hid (show Below w2.heap.size w2 w3 by rw [← hw3]; exact below_setRow ((Below.refl _ _).alloc (Nat.le_refl _) _) (Nat.le_refl _) _)
  have E3 := hid (show Blk w3 gE 57 (enL z).toArray by rw [← hw3, hgE]; exact (Blk.new w2 _ _).setRow_same _)
  have hER : gR ≠ gE := by omega
  rw [← hgE]
  clear hw3 hgE
  have R3 := hid (R2.out.below B3.out hrl2)
  have P3 := hid (P2.out.belowK B3.out)
  have C3 := hid (C2.out.trans (Come.refl (fun _ => False) F2 B3.out) fun _ e => e.elim)
  clear R2 P2 C2 B3 hrl2
  refine wp_region_c (S := yS [some (.pointer (some ⟨gE, 3, none⟩)), some (.agg (ar 64 z.s)), some (.pointer (some ⟨gE, 67, none⟩)), some (.int .i64 z.e), some undef, some (.int .i64 z.e)] []) (C := fun d vs w' => ResC w3 gR z.s (d 4) w') 6 (by kernel_rfl) (by kernel_rfl) (by kernel_rfl) _
    (yS_ok _ fun y hy => by cases hy) ⟨Turn.drew _, R3.out.drew⟩ fun vs => ?_
  simp only [List.take_succ_cons, List.take_zero, List.drop_succ_cons, List.drop_zero]
  refine ⟨.inl ⟨rfl, fun dd w' hd hnx hw hC => ?_⟩, fun e => ?_⟩
  · go_simp
    first | exact ⟨rfl, hC⟩ | exact hC
  have e' : vs 0 = _ := e
  rw [e']
  clear e e'
  simp only [Act.put, List.setIfInBounds_toArray, List.set_cons_succ, List.set_cons_zero]
  refine ⟨.inl ⟨rfl, fun dd w' hd hnx hw hC => ?_⟩, fun e => ?_⟩
  · exact gE_ldA tSe rfl (en_qs (E3.out.turn hC.t fun e => hER e.symm)) ⟨rfl, hC⟩
  have e' : vs 1 = _ := e
  rw [e']
  clear e e'
  simp only [Act.put, List.setIfInBounds_toArray, List.set_cons_succ, List.set_cons_zero]
  refine ⟨.inl ⟨rfl, fun dd w' hd hnx hw hC => ?_⟩, fun e => ?_⟩
  · go_simp
    first | exact ⟨rfl, hC⟩ | exact hC
  have e' : vs 2 = _ := e
  rw [e']
  clear e e'
  simp only [Act.put, List.setIfInBounds_toArray, List.set_cons_succ, List.set_cons_zero]
  refine ⟨.inl ⟨rfl, fun dd w' hd hnx hw hC => ?_⟩, fun e => ?_⟩
  · have h1 : w'.cell? ⟨gE, 67, none⟩ = some (.int .i64 z.e) := en_qe (E3.out.turn hC.t fun e => hER e.symm)
    go_simp
    first | exact ⟨rfl, hC⟩ | exact hC
  have e' : vs 3 = _ := e
  rw [e']
  clear e e'
  simp only [Act.put, List.setIfInBounds_toArray, List.set_cons_succ, List.set_cons_zero]
  refine ⟨.inl ⟨rfl, fun dd w' hd hnx hw hC => ?_⟩, fun e => ?_⟩
  · with_reducible refine gE_stA (n := 64) (f0 := if dd 4 then z.s else fun _ => 0) (f := z.s) (g := gR) (t := 43) ?_ ?_ ?_ ?_ ?_
    · exact tSe
    · rfl
    · rfl
    · exact hC.b
    · exact ⟨rfl, hC.put⟩
  have e' : vs 4 = _ := e
  rw [e']
  clear e e'
  simp only [Act.put, List.setIfInBounds_toArray, List.set_cons_succ, List.set_cons_zero]
  refine ⟨.inl ⟨rfl, fun dd w' hd hnx hw hC => ?_⟩, fun e => ?_⟩
  · go_simp
    first | exact ⟨rfl, hC⟩ | exact hC
  have e' : vs 5 = _ := e
  rw [e']
  clear e e'
  simp only [Act.put, List.setIfInBounds_toArray, List.set_cons_succ, List.set_cons_zero]
  intro dd wz hall hC
  have h4 : dd 4 = true := hall 4 (by omega)
  have Z := hid (show Blk wz gR 43 (ar 64 z.s) by have := hC.b; rw [h4] at this; exact this)
  have P6 := hid (P3.out.turnK hC.t fun q e x => by rw [x] at e; exact e.elim n2.1 n2.2)
  have C6 := hid (show Come (fun _ => False) w F wz F2 from C3.out.trans (Come.touch (X := fun q => q = gR) _ F2 hC.t fun q e => .inl e) fun q e => .inr (e ▸ hRw.out))
  clear hC h4 hall E3 R3 P3 C3 n2
  go_wp2_with fail
  refine retA (t := 43) (f := z.s) (h := gR) (v := .int .i64 z.e) tSe Tryz.results13 rfl rfl rfl Z.out ?_
  have h9 := C6.out.toQ P6.out
  have h8 := HZ.out
  subst h8
  exact ⟨rfl, h9⟩
set_option maxRecDepth 100000 in
theorem lb_write (H : Pp (RepK 0) w g F k b) (hk : k + b.steps.length + 2 ≤ 8000) (m i : Int) (x : Nat → Nat) (hx : ∀ j, x j < 256) : Calls Tryz.prog 16 #[MbP.at' g, .int .i64 m, .int .i64 i, .agg (ar 64 x)] w fun e w' => e = .returned (.int .i64 (BuM.wrB (BuM.ahead b) m i x).e) ∧ outQ (RepK 0) w g F (k + b.steps.length + 2) (BuM.wrT b m i x) w' := by
  have HH := hid H
  have HX := hid hx
  clear H hx
  unfold MbP.at'
  go_enter Tryz.func16, Tryz.ntmps16
  go_upto_region 1 with fail
  generalize hw0 : World.alloc w _ = w0
  generalize hw1 : World.alloc w0 _ = w1
  obtain ⟨gI, hgI⟩ : ∃ n, n = w.heap.size := ⟨_, rfl⟩
  have hs0 : w0.heap.size = w.heap.size + 1 := by rw [← hw0]; simp
  obtain ⟨gX, hgX⟩ : ∃ n, n = w.heap.size + 1 := ⟨_, rfl⟩
  have bI := hid (show Blk w1 gI 3 #[.int .i64 i] by rw [← hw1, ← hw0, hgI]; exact (Blk.new _ _ _).alloc _)
  have bX := hid (show Blk w1 gX 43 (ar 64 x) by rw [← hw1, hgX, ← hs0]; exact Blk.new _ _ _)
  have BEL := hid (show Below w.heap.size w w1 by rw [← hw1, ← hw0]; exact ((Below.refl _ _).alloc (Nat.le_refl _) _).alloc (by simp) _)
  have nI : ¬ mutP F gI := fun e => by have := HH.out.mlt gI e; omega
  have nX : ¬ mutP F gX := fun e => by have := HH.out.mlt gX e; omega
  rw [← hgX, ← hgI]
  clear hw1 hw0 hs0 hgI hgX
  have H1 := hid (HH.out.belowK BEL.out)
  have qI : w1.cell? ⟨gI, 0, none⟩ = some (.int .i64 i) := bI.out.cell 0
  go_wp2_with (first | ((with_reducible apply ldA tSe); rfl; exact bX.out) | ((with_reducible apply wbpWr (s := x)); rfl; rfl; rfl))
  refine (lb_ofmWr H1.out hk m i x HX.out bI.out bX.out nI nX).mono ?_
  rintro e w2 ⟨rfl, ho⟩
  have HO := hid (outQ.behind BEL.out ho)
  clear ho H1 bI bX qI nI nX
  go_wp2_with ((with_reducible apply wfldE (E := wrB (BuM.ahead b) m i x)); rfl)
  go_ret
  exact ⟨rfl, HO.out⟩
set_option maxRecDepth 100000 in
theorem lb_flush (H : Pp (RepK 0) w g F k b) (hk : k + b.steps.length + 2 ≤ 8000) (m : Int) : Calls Tryz.prog 25 #[MbP.at' g, .int .i64 m] w fun e w' => e = .returned (.int .i64 (BuM.flB (BuM.ahead b) m).e) ∧ outQ (RepK 0) w g F (k + b.steps.length + 2) (BuM.flT b m) w' := by
  have HH := hid H
  clear H
  unfold MbP.at'
  go_enter Tryz.func25, Tryz.ntmps25
  go_wp2_with ((with_reducible apply wbpFl); rfl)
  refine (lb_ofmFl HH.out hk m).mono ?_
  rintro e w2 ⟨rfl, ho⟩
  have HO := hid ho
  clear ho
  go_wp2_with ((with_reducible apply wfldE (E := flB (BuM.ahead b) m)); rfl)
  go_ret
  exact ⟨rfl, HO.out⟩
end
end BuP
end Go.Proofs.YthogklchmhjjkaaGreat
set_option maxRecDepth 100000
namespace Go.Proofs.YthogklchmhjjkaaGreat
open Go.ChangeShapes Go.WideShapes Go.ChangeAt Go.RowKit
attribute [local go_sem] Gives GivesE
namespace BuP
open BuM MbM MbP MpV
section
variable {ops : Array Oper} {Q : Exit → Act → World → Prop} {a : Act} {w : World} {rest : List Oper} {dst : Option Tmp} {ty : TypeId} {pos : String} {after : Array Edge} {d s x y : Operand} {f h : Nat → Nat} {t : TypeId} {gd : Option (Nat × Bool)}
/-- copy of m bytes to the head of a row. -/
theorem wcopyH {g N m b p dLen dCap sLen sCap : Nat} {f' : Nat → Nat} (hd : a.eval d = .slice (some ⟨g, 0, none⟩) dLen dCap) (hs : a.eval s = .slice (some ⟨b, p, none⟩) sLen sCap) (hg : Blk w g t (ar N f)) (hr : w.rangeAt b p (ar m h).toList)
    (hm : m = Nat.min sLen dLen) (hfit : m ≤ N) (hf : ∀ j, f' j = if j < m then h j else f j) (hk : wpList Tryz.prog ops Q rest (a.put dst (goInt m)) (w.setRow g (ar N f'))) :
    wpList Tryz.prog ops Q (⟨dst, .call { callee := .builtin .copy, args := #[d, s], argTypes := #[60, 60] }, ty, pos, after, none⟩ :: rest) a w := by
  have hlen : (ar m h).toList.length = m := by rw [Array.length_toList, size_ar]
  refine wpList_copy_own rfl d s 60 60 rfl 5 Tryz.underlying60 (by kernel_rfl) g 0 dLen dCap ⟨b, p, none⟩ sLen sCap hd hs (ar N f) t hg (ar m h).toList (by rw [hlen]; exact hm) ?_ (by rw [hlen, size_ar]; omega) ?_ ?_
  · intro j v hj
    rw [Addr.add_mid]
    exact hr j v hj
  · intro v hv
    exact (Array.all_eq_true_iff_forall_mem.1 ar_one) v (by simpa using hv)
  · rw [hlen]
    have e : (List.take 0 (ar N f).toList ++ ((ar m h).toList ++ (ar N f).toList.drop (0 + m))).toArray = ar N f' := by
      apply Array.ext_getElem?
      intro k
      rw [List.take_zero, List.nil_append, Nat.zero_add, List.getElem?_toArray, List.getElem?_append, hlen]
      by_cases h2 : k < m
      · rw [if_pos h2, Array.getElem?_toList, get_ar h2, get_ar (by omega), hf, if_pos h2]
      · rw [if_neg h2, List.getElem?_drop, Array.getElem?_toList, show m + (k - m) = k by omega]
        by_cases h3 : k < N
        · rw [get_ar h3, get_ar h3, hf, if_neg h2]
        · rw [ar, ar, get_row, get_row, if_neg h3, if_neg h3]
    rw [e]
    exact hk
theorem gE_stI {T : TypeId} {g o : Nat} {k : IntKind} {n : Int} {u : Value} {R : Value → World → Prop} (hx : a.eval x = .pointer (some ⟨g, o, none⟩)) (hy : a.eval y = .int k n) (hT : (Tryz.prog.info? T).map (·.size) = some 1) (hc : w.cell? ⟨g, o, none⟩ = some u) (hz : w.frozen? ⟨g, o, none⟩ = false)
    (hR : R undef (w.setCell ⟨g, o, none⟩ (.int k n))) : GivesE Tryz.prog ⟨dst, .store T x y, ty, pos, after, gd⟩ a w R := by
  unfold GivesE
  have h1 : (Instr.storeAt T (.pointer (some ⟨g, o, none⟩)) (.int k n)).run Tryz.prog w = .ok () (w.setCell ⟨g, o, none⟩ (.int k n)) := by
    have hs : (sizeOf T).run Tryz.prog w = .ok 1 w := by
      cases hi : Tryz.prog.info? T with
      | none => rw [hi] at hT; cases hT
      | some i =>
        rw [hi] at hT
        simp only [Option.map_some, Option.some.injEq] at hT
        simp [sizeOf, typeInfo, hi, hT]
    simp [go_sem, hs, hc, hz, Result.andThen]
  simp [execOp, hx, hy, h1, Result.andThen]
  exact hR
end
set_option maxRecDepth 100000 in
theorem lb_sector (t : Nat → Nat) (w : World) : Calls Tryz.prog 59 #[.agg (ar 32 t)] w fun e w' => e = .returned (.agg (ar 64 (pad t))) ∧ Below w.heap.size w w' := by
  go_enter Tryz.func59, Tryz.ntmps59
  go_upto_region 1 with (with_reducible apply alA tSe)
  try simp only [Act.put, List.setIfInBounds_toArray, List.set_cons_succ, List.set_cons_zero]
  generalize hw0 : World.alloc w _ = w0
  generalize hw1 : World.alloc w0 _ = w1
  obtain ⟨gT, hgT⟩ : ∃ n, n = w.heap.size := ⟨_, rfl⟩
  obtain ⟨gR, hgR⟩ : ∃ n, n = w.heap.size + 1 := ⟨_, rfl⟩
  have hs0 : w0.heap.size = w.heap.size + 1 := by rw [← hw0]; simp
  have bT := hid (show Blk w1 gT 25 (ar 32 t) by rw [← hw1, ← hw0, hgT]; exact (Blk.new _ _ _).alloc _)
  have bR := hid (show Blk w1 gR 43 (ar 64 fun _ => 0) by rw [← hw1, hgR, ← hs0]; exact Blk.new _ _ _)
  have BEL := hid (show Below w.heap.size w w1 by rw [← hw1, ← hw0]; exact ((Below.refl _ _).alloc (Nat.le_refl _) _).alloc (by simp) _)
  have hRw := hid (show w.heap.size ≤ gR by omega)
  have hTR : gT ≠ gR := by omega
  rw [hs0, ← hgR, ← hgT]
  clear hw1 hw0 hs0 hgT hgR
  refine wp_region_tail (C := fun w' => Below w1.heap.size w1 w') 2 (by kernel_rfl) (by kernel_rfl) (by kernel_rfl) (Below.refl _ _).drew ?_
  simp only [List.take_succ_cons, List.take_zero, List.drop_succ_cons, List.drop_zero]
  apply wpK_val
  · rfl
  · intro w' hw'
    go_simp
    first | exact rfl | exact ⟨rfl, hw'⟩
  simp only [Act.put, List.setIfInBounds_toArray, List.set_cons_succ, List.set_cons_zero]
  apply wpK_val
  · rfl
  · intro w' hw'
    go_simp
    first | exact rfl | exact ⟨rfl, hw'⟩
  simp only [Act.put, List.setIfInBounds_toArray, List.set_cons_succ, List.set_cons_zero]
  intro w2 hC2
  have T2 := hid (bT.out.below hC2 bT.out.lt)
  have R2 := hid (bR.out.below hC2 bR.out.lt)
  have B2 := hid (BEL.out.trans (hC2.mono BEL.out.size))
  clear hC2 bT bR BEL
  go_upto_region 2 with ((with_reducible apply wcopyH (h := t) (f' := pad t)); rfl; rfl; exact R2.out; exact T2.out.whole; rfl; omega; exact fun j => rfl)
  generalize hw3 : World.setRow w2 _ _ = w3
  have R3 := hid (show Blk w3 gR 43 (ar 64 (pad t)) by rw [← hw3]; exact R2.out.setRow_same _)
  have B3 := hid (show Below w.heap.size w w3 by rw [← hw3]; exact below_setRow B2.out hRw.out _)
  clear hw3 R2 T2 B2
  have b4 := R3.out.setRow_same (ar 64 (pad t))
  have B4 := hid (below_setRow B3.out hRw.out (ar 64 (pad t)))
  go_wp2_with (first | ((with_reducible apply ldA tSe); rfl; exact R3.out) | ((with_reducible apply stA tSe); rfl; rfl; exact R3.out))
  apply ret_ar tSe Tryz.results59
  · rfl
  · rfl
  · exact b4
  exact ⟨rfl, B4.out⟩
end BuP
end Go.Proofs.YthogklchmhjjkaaGreat
set_option maxRecDepth 100000
namespace Go.Proofs.YthogklchmhjjkaaGreat
open Go.ChangeShapes Go.WideShapes Go.ChangeAt Go.RowKit
attribute [local go_sem] Gives GivesE
namespace BuP
open BuM MbM MbP MpV
/-- A row stored into the middle; the world behind it under a name of its own. -/
theorem stRMw {ops : Array Oper} {Q : Exit → Act → World → Prop} {a : Act} {w : World} {rest : List Oper} {dst : Option Tmp} {ty : TypeId} {pos : String} {after : Array Edge} {x y : Operand} {g o : Nat} {T : TypeId} {cs : Array Value} (hT : RowT T cs.size) (hx : a.eval x = .pointer (some ⟨g, o, none⟩)) (hy : a.eval y = .agg cs) (ht : w.there g o cs.size) (h1 : cs.all (·.oneCell') = true)
    (h : ∀ w', w' = w.setCells g o cs.toList → wpList Tryz.prog ops Q rest (a.put dst undef) w') : wpList Tryz.prog ops Q (⟨dst, .store T x y, ty, pos, after, none⟩ :: rest) a w :=
  stRM hT hx hy ht h1 (h _ rfl)
section
variable {w w' : World} {d g k : Nat} {F : Fq} {b : Bs}
theorem hcf_ce (args : Array Value) (w : World) : (callFunc 58 args).run Tryz.prog w = .ok (.enter 58 args) w := by
  simp [callFunc, Tryz.func58, Tryz.f58]
theorem pp_gcq (H : Pp (RepK d) w g F k b) : w.cell? ⟨g, 1, none⟩ = some (.pointer (some ⟨F.gc, 0, none⟩)) := by
  obtain ⟨A, c, r, vl, Fm, K, _⟩ := H.skel
  exact pb_gc K.blk
set_option maxHeartbeats 600000 in
set_option maxRecDepth 100000 in
theorem lb_ce1 {t gB gH : Nat} {T1 : TypeId} (H : Pp (RepK d) w g F k b) (n1 : ¬ mutP F t ∧ ¬ rdP F t) (n2 : ¬ mutP F gH ∧ ¬ rdP F gH) (htH : t ≠ gH) (hBH : gB ≠ gH) (bt : Blk w t 57 (enL ⟨4, 0, 0, fun _ => 0, 0⟩).toArray) (bB : Blk w gB T1 #[.pointer (some ⟨g, 0, none⟩)])
    (bH : Blk w gH 27 (ClP.ceL (0, ClP.zero)).toArray) :
    Calls Tryz.prog 58 #[MbP.at' t, .pointer (some ⟨gB, 0, none⟩), .pointer (some ⟨gH, 0, none⟩)] w fun e w2 => e = .returned (.tuple #[]) ∧ Blk w2 t 57 (enL ⟨4, 0, 0, pad b.c.2, 0⟩).toArray ∧
      outX (fun q => q = t ∨ q = gH) (RepK d) w g F (k + 1) b w2 ∧ Blk w2 gH 27 (ClP.ceL b.c).toArray := by
  have HH := hid H
  have q1 : w.cell? ⟨gB, 0, none⟩ = some (.pointer (some ⟨g, 0, none⟩)) := bB.cell 0
  have q2 := pp_gcq H
  have BT := hid bt
  have BH := hid bH
  have N1 := hid n1
  have N2 := hid n2
  clear H bt bB bH n1 n2
  unfold MbP.at'
  go_enter Tryz.func58, Tryz.ntmps58
  go_wp2_with fail
  refine (cb_read HH.out.cel).mono ?_
  rintro e w2 ⟨rfl, hb⟩
  obtain ⟨h, hh⟩ : ∃ h, h = b.c := ⟨_, rfl⟩
  have HE := hid hh
  have P2 := hid (HH.out.belowK hb)
  have T2 := hid (BT.out.below hb BT.out.lt)
  have H2 := hid (BH.out.below hb BH.out.lt)
  have B2 := hid hb
  rw [← hh]
  clear hb hh q1 q2 BT BH
  have tr := Turn.setRow (S := fun q => q = gH) w2 gH (ClP.ceL h).toArray rfl
  have T3 := hid (T2.out.turn tr htH)
  have H3 := hid (show Blk (w2.setRow gH (ClP.ceL h).toArray) gH 27 (ClP.ceL h).toArray from H2.out.setRow_same _)
  have q67 : (w2.setRow gH (ClP.ceL h).toArray).cell? ⟨t, 67, none⟩ = some (.int .i64 0) := en_qe T3.out
  have fz := T3.out.frozen 67
  have ts := Turn.setCell (S := fun q => q = t) (w2.setRow gH (ClP.ceL h).toArray) ⟨t, 67, none⟩ (.int .i64 0) rfl
  have T4 := hid (en_setE T3.out 0)
  have H4 := hid (H3.out.turn ts fun e => htH e.symm)
  have P4 := hid ((P2.out.turnK tr fun q e x => by rw [x] at e; exact e.elim N2.out.1 N2.out.2).turnK ts fun q e x => by rw [x] at e; exact e.elim N1.out.1 N1.out.2)
  have C4 := hid (show Come (fun q => q = t ∨ q = gH) w F ((w2.setRow gH (ClP.ceL h).toArray).setCell ⟨t, 67, none⟩ (.int .i64 0)) F from
    ((Come.refl _ F B2.out).trans (Come.touch (X := fun q => q = gH) _ F tr fun q e => .inl e) fun q e => .inl (.inr e)).trans (Come.touch (X := fun q => q = t) _ F ts fun q e => .inl e) fun q e => .inl (.inl e))
  clear tr ts
  go_upto_region 1 with ((with_reducible apply stR (ClP.tCe h)); rfl; rfl; exact H2.out; exact ClP.ce_size _ _; exact ClP.ce_one _)
  generalize World.setCell _ _ _ = w4 at T4 H4 P4 C4 ⊢
  clear q67 fz T3 H3 T2 H2 P2 B2
  go_upto_region 1 with fail
  have L4 := hid (ClP.ce_l (o := 0) (b := gH) (h := h) H4.out.whole)
  go_wp2_with ((with_reducible apply ldAm ClP.tTg); rfl; exact L4.out)
  refine (lb_sector h.2 w4).mono ?_
  rintro e w5 ⟨rfl, hb⟩
  obtain ⟨sv, hsv⟩ : ∃ s, s = pad h.2 := ⟨_, rfl⟩
  have HSV := hid hsv
  rw [← hsv]
  have T5 := hid (T4.out.below hb T4.out.lt)
  have H5 := hid (H4.out.below hb H4.out.lt)
  have P5 := hid (P4.out.belowK hb)
  have C5 := hid (show Come (fun q => q = t ∨ q = gH) w F w5 F from C4.out.trans (Come.refl (fun _ => False) F hb) fun _ e => e.elim)
  have th := hid (show w5.there t 3 (ar 64 sv).size by rw [size_ar]; exact en_there (o := 3) (n := 64) T5.out (by omega))
  have tu := turn_setCells (g := t) (ar 64 sv).toList 3 w5
  have T6 := hid (en_setS T5.out sv)
  have H6 := hid (H5.out.turn tu fun e => htH e.symm)
  have P6 := hid ((P5.out.turnK tu fun q e x => by rw [x] at e; exact e.elim N1.out.1 N1.out.2).mono (Nat.le_succ k))
  have C6 := hid (C5.out.trans (Come.touch (X := fun q => q = t) _ F tu fun q e => .inl e) fun q e => .inl (.inl e))
  clear hsv hb tu L4 T5 H5 P5 C5 T4 H4 P4 C4
  have FIN := hid (show ∀ w9, w9 = w5.setCells t 3 (ar 64 sv).toList → Blk w9 t 57 (enL ⟨4, 0, 0, pad b.c.2, 0⟩).toArray ∧ outX (fun q => q = t ∨ q = gH) (RepK d) w g F (k + 1) b w9 ∧ Blk w9 gH 27 (ClP.ceL b.c).toArray from fun w9 e9 => by
    rw [e9, ← HE.out, ← HSV.out]
    exact ⟨T6.out, C6.out.toX P6.out, H6.out⟩)
  clear HSV T6 H6 P6 C6
  go_wp2_with ((with_reducible apply stRMw (cs := ar 64 sv) tSeR); rfl; rfl; exact th.out; exact ar_one; intro w9 hw9; have HW := hid (FIN.out w9 hw9); clear hw9 FIN th)
  refine bodyPost_end (results_none rfl _ _ _) rfl ?_
  exact ⟨rfl, HW.out⟩
/-- An I/O that tells what the cell holds. -/
theorem lb_ceIo {gB gH : Nat} (H : Pp (RepK 0) w g F k b) (hk : k + b.steps.length + 2 ≤ 8000) (hBH : gB ≠ gH) (bB : Blk w gB 34 #[.pointer (some ⟨g, 0, none⟩)]) (bH : Blk w gH 27 (ClP.ceL (0, ClP.zero)).toArray) (nB : ¬ mutP F gB) (nH : ¬ mutP F gH ∧ ¬ rdP F gH) :
    Calls Tryz.prog 57 #[MbP.at' g, .agg (enL ⟨4, 0, 0, fun _ => 0, 0⟩).toArray, .func (.func 58) #[] #[.pointer (some ⟨gB, 0, none⟩), .pointer (some ⟨gH, 0, none⟩)]] w fun e w' =>
      e = .returned (.agg (enL (ceB (BuM.ahead b))).toArray) ∧ outX (fun q => q = gH) (RepK 0) w g F (k + b.steps.length + 2) (BuM.ceT b) w' ∧ Blk w' gH 27 (ClP.ceL (ceV (BuM.ahead b))).toArray := by
  have hlH := bH.lt
  refine (lb_io (X := fun q => q = gH) (D := fun w => Blk w gH 27 (ClP.ceL (BuM.ahead b).c).toArray) (y := ⟨4, 0, 0, pad (BuM.ahead b).c.2, 0⟩) (b2 := BuM.ahead b) (cap := #[.pointer (some ⟨gB, 0, none⟩), .pointer (some ⟨gH, 0, none⟩)]) H hk hcf_ce (fun q e => by rw [e]; exact ⟨hlH, nH.1, nH.2⟩) (fun w w' T h1 h2 h3 => h1.turn h2 (h3 gH rfl)) fun _ w1 t F1 hP hC ht n1 n2 bt => ?_).mono ?_
  · have tu := hC.2.2.2.2
    have hlt : gH < w1.heap.size := Nat.lt_of_lt_of_le hlH tu.size
    refine lb_ce1 (gB := gB) (gH := gH) hP ⟨n1, n2⟩ ⟨fun e => ?_, fun e => ?_⟩ (by omega) hBH bt (bB.turn tu fun e => e.elim nB id) (bH.turn tu fun e => e.elim nH.1 id)
    · rcases hC.2.2.1 gH e with y | y
      · exact nH.1 y
      · omega
    · rcases hC.2.2.2.1 gH e with y | y | y
      · exact nH.1 y
      · exact nH.2 y
      · omega
  · rintro e w' (⟨ho, he, h⟩ | ⟨ho, he, h, hD⟩)
    · have e1 : ceB (BuM.ahead b) = ⟨4, 0, 0, fun _ => 0, 13⟩ := by unfold ceB; rw [if_pos ho]; rfl
      have e2 : ceV (BuM.ahead b) = (0, ClP.zero) := by unfold ceV; rw [if_pos ho]
      obtain ⟨F3, h3, h4⟩ := Come.ofQ h
      rw [e1, e2]
      refine ⟨he, ?_, bH.turn h4.2.2.2.2 fun e => e.elim nH.1 id⟩
      unfold BuM.ceT
      rw [e1]
      exact (Come.trans (Come.refl (fun q => q = gH) F (Below.refl _ _)) h4 fun _ e => e.elim).toX h3
    · have e1 : ceB (BuM.ahead b) = ⟨4, 0, 0, pad (BuM.ahead b).c.2, 0⟩ := by unfold ceB; rw [ho]; rfl
      have e2 : ceV (BuM.ahead b) = (BuM.ahead b).c := by unfold ceV; rw [ho]; rfl
      rw [e1, e2]
      refine ⟨he, ?_, hD⟩
      unfold BuM.ceT
      rw [e1]
      exact h
end
end BuP
end Go.Proofs.YthogklchmhjjkaaGreat
