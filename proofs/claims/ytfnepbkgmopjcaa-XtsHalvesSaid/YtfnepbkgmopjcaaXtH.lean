/-
  The law XtsHalves.
-/
import Derived.Test.YtfnepbkgmopjcaaXtW
namespace Go.Proofs.Ytfnepbkgmopjcaa
open Go.ChangeShapes Go.WideShapes Go.ChangeAt Go.RowKit
open AesM (Bt Q16 ls)
open AesP (tBk tKey wr_nat Cip cip_lt)
attribute [local go_sem] Gives
namespace XtP
theorem eqA_dbl {f g : Nat → Nat} (hf : Bt f) (hg : Bt g) : eqA 16 (XtM.dbl f) (XtM.dbl g) = eqA 16 f g := by
  by_cases h : Q16 f g
  · rw [eqA_yes h, eqA_yes (XtM.dbl_q h)]
  · rw [eqA_no h, eqA_no fun h2 => h (XtM.dbl_inj hf hg h2)]
set_option maxHeartbeats 800000 in
set_option maxRecDepth 100000 in
theorem halves_law (f g : Nat → Nat) (hf : Bt f) (hg : Bt g) (W : World) :
    Calls Try.prog 7 #[.agg (ar 16 f), .agg (ar 16 g)] W fun e w' => e = .returned (.bool true) ∧ Below W.heap.size W w' := by
  have HF := hid hf
  have HG := hid hg
  have DF := hid (XtM.dbl_bt hf)
  have DG := hid (XtM.dbl_bt hg)
  clear hf hg
  go_enter Try.func7, Try.ntmps7
  go_upto_region 1 with fail
  generalize hw1 : World.alloc (World.alloc W _) _ = w1
  have b0 := hid (show Blk w1 W.heap.size 35 (ar 16 f) by rw [← hw1]; exact (Blk.new _ _ _).alloc _)
  have b1 := hid (show Blk w1 (W.heap.size + 1) 35 (ar 16 g) by rw [← hw1]; exact Blk.top rfl (by simp))
  have hb := hid (show Below W.heap.size W w1 by rw [← hw1]; exact ((Below.refl _ _).alloc (Nat.le_refl _) _).alloc (by simp) _)
  clear hw1
  have hl1 := b1.out.lt
  refine wp_region_new2 (C := fun w' => Below w1.heap.size w1 w') 4 35 (ar 16 fun _ => 0) 5 6 rfl rfl (by kernel_rfl) (by kernel_rfl) (by kernel_rfl) (run_alloc_ar tBk) (Below.refl _ _).drew (fun w' hw' => hw'.alloc hw'.size _) (fun w' hw' => hw'.size) ?_
  simp only [List.take_succ_cons, List.take_zero, List.drop_succ_cons, List.drop_zero]
  apply bldA tBk
  · rfl
  · rfl
  · exact fun w' hw' => (b0.out.below hw' b0.out.lt).head
  simp only [Act.put, List.setIfInBounds_toArray, List.set_cons_succ, List.set_cons_zero]
  apply wpB_val
  · rfl
  · intro w' hw'
    go_simp
    exact (double_any f HF.out w').mono fun e w2 h => ⟨h.1, hw'.trans (h.2.mono hw'.size), h.2⟩
  simp only [Act.put, List.setIfInBounds_toArray, List.set_cons_succ, List.set_cons_zero]
  apply bldA tBk
  · rfl
  · rfl
  · exact fun w' hw' => (b1.out.below hw' b1.out.lt).head
  simp only [Act.put, List.setIfInBounds_toArray, List.set_cons_succ, List.set_cons_zero]
  apply wpB_val
  · rfl
  · intro w' hw'
    go_simp
    exact (double_any g HG.out w').mono fun e w2 h => ⟨h.1, hw'.trans (h.2.mono hw'.size), h.2⟩
  simp only [Act.put, List.setIfInBounds_toArray, List.set_cons_succ, List.set_cons_zero]
  refine wpB_nil fun gx gy w5 hxy hw5 qx qy hx hy => ?_
  have d0 := hid (b0.out.below hw5 b0.out.lt)
  have d1 := hid (b1.out.below hw5 b1.out.lt)
  have db := hid (hb.out.trans (hw5.mono hb.out.size))
  have qy2 := qy.setRow_other hxy (ar 16 (XtM.dbl f))
  clear b0 b1 hb hw5
  unfold ptr
  go_upto_region 2 with (first | ((with_reducible apply stA tBk); rfl; rfl; exact qx) | ((with_reducible apply stA tBk); rfl; rfl; exact qy2))
  generalize hw6 : World.setRow _ _ _ = w6
  have c0 := hid (show Blk w6 W.heap.size 35 (ar 16 f) by rw [← hw6]; exact (d0.out.setRow_other (by omega) _).setRow_other (by omega) _)
  have c1 := hid (show Blk w6 (W.heap.size + 1) 35 (ar 16 g) by rw [← hw6]; exact (d1.out.setRow_other (by omega) _).setRow_other (by omega) _)
  have cx := hid (show Blk w6 gx 35 (ar 16 (XtM.dbl f)) by rw [← hw6]; exact (qx.setRow_same _).setRow_other (Ne.symm hxy) _)
  have cy := hid (show Blk w6 gy 35 (ar 16 (XtM.dbl g)) by rw [← hw6]; exact qy2.setRow_same _)
  have cb := hid (show Below W.heap.size W w6 by rw [← hw6]; exact below_setRow (below_setRow db.out (by omega) _) (by omega) _)
  have nx : W.heap.size + 1 < gx := by omega
  have ny : W.heap.size + 1 < gy := by omega
  clear hw6 d0 d1 db qx qy qy2 hx hy
  have lx := cx.out.lt
  have ly := cy.out.lt
  obtain ⟨gs, hgs⟩ : ∃ gs, gs = w6.heap.size := ⟨_, rfl⟩
  obtain ⟨gt, hgt⟩ : ∃ gt, gt = (w6.alloc (.cells (ar 16 fun _ => 0) 35)).heap.size := ⟨_, rfl⟩
  have hgst : gt = gs + 1 := by rw [hgt, hgs]; simp
  have hz : Blk ((w6.alloc (.cells (ar 16 fun _ => 0) 35)).alloc (.cells (ar 16 fun _ => 0) 35)) w6.heap.size 35 (ar 16 fun _ => 0) := (Blk.new _ _ _).alloc _
  have hz2 : Blk ((w6.alloc (.cells (ar 16 fun _ => 0) 35)).alloc (.cells (ar 16 fun _ => 0) 35)) (w6.alloc (.cells (ar 16 fun _ => 0) 35)).heap.size 35 (ar 16 fun _ => 0) := Blk.new _ _ _
  have db : Below W.heap.size W ((w6.alloc (.cells (ar 16 fun _ => 0) 35)).alloc (.cells (ar 16 fun _ => 0) 35)) := (cb.out.alloc cb.out.size _).alloc (by have := cb.out.size; simp; omega) _
  go_upto_region 3 with (with_reducible apply alA tBk)
  rw [← hgt] at hz2 ⊢
  rw [← hgs] at hz lx ly ⊢
  generalize hw7 : World.alloc (World.alloc w6 _) _ = w7 at hz hz2 db ⊢
  have d0 := show Blk w7 W.heap.size 35 (ar 16 f) by rw [← hw7]; exact (c0.out.alloc _).alloc _
  have d1 := show Blk w7 (W.heap.size + 1) 35 (ar 16 g) by rw [← hw7]; exact (c1.out.alloc _).alloc _
  have dx := show Blk w7 gx 35 (ar 16 (XtM.dbl f)) by rw [← hw7]; exact (cx.out.alloc _).alloc _
  have dy := show Blk w7 gy 35 (ar 16 (XtM.dbl g)) by rw [← hw7]; exact (cy.out.alloc _).alloc _
  clear hw7 c0 c1 cx cy cb hgs hgt
  subst hgst
  go_wp2_with fail
  go_loopw [9] (fun i wr => ∃ k : Nat, k ≤ 16 ∧ i = .int .i64 k ∧ Blk wr W.heap.size 35 (ar 16 f) ∧ Blk wr (W.heap.size + 1) 35 (ar 16 g) ∧ Blk wr gx 35 (ar 16 (XtM.dbl f)) ∧ Blk wr gy 35 (ar 16 (XtM.dbl g)) ∧
      Blk wr gs 35 (ar 16 (upTo k (fun _ => 0) (AesM.add f g))) ∧ Blk wr (gs + 1) 35 (ar 16 (upTo k (fun _ => 0) (AesM.add (XtM.dbl f) (XtM.dbl g)))) ∧ Below W.heap.size W wr) (fun i _ => 16 - (intOf i).toNat)
  case atStart => exact ⟨0, by omega, rfl, d0, d1, dx, dy, by rw [upTo_zero]; exact hz, by rw [upTo_zero]; exact hz2, db⟩
  case round =>
    clear d0 d1 dx dy hz hz2 db
    obtain ⟨k, hk, rfl, b0, b1, bx, by', bs, bt, hb⟩ := hrel
    by_cases hlt : k < 16
    · have tk : (k : Int) < 16 := by omega
      have c0 : wr.cell? ⟨W.heap.size, k, none⟩ = some (.int .u8 (f k : Nat)) := by rw [b0.cell, get_ar hlt]
      have c1 : wr.cell? ⟨W.heap.size + 1, k, none⟩ = some (.int .u8 (g k : Nat)) := by rw [b1.cell, get_ar hlt]
      have c3 := bs.frozen k
      have c4 := (bs.cell k).trans (get_ar hlt)
      go_wp2_with fail
      go_still_tail 9, (by kernel_rfl)
      change wpList _ _ _ _ _ wr.drew
      rw [u8_xor_nat _ _ (HF.out k) (HG.out k)]
      go_upto_region 7 with fail
      generalize hw8 : World.drew (World.setCell _ _ _) = w8
      have e0 : Blk w8 W.heap.size 35 (ar 16 f) := by rw [← hw8]; exact (b0.setCell_other (by show gs ≠ _; omega) _).drew
      have e1 : Blk w8 (W.heap.size + 1) 35 (ar 16 g) := by rw [← hw8]; exact (b1.setCell_other (by show gs ≠ _; omega) _).drew
      have ex : Blk w8 gx 35 (ar 16 (XtM.dbl f)) := by rw [← hw8]; exact (bx.setCell_other (by show gs ≠ _; omega) _).drew
      have ey : Blk w8 gy 35 (ar 16 (XtM.dbl g)) := by rw [← hw8]; exact (by'.setCell_other (by show gs ≠ _; omega) _).drew
      have es : Blk w8 gs 35 (ar 16 (upTo (k + 1) (fun _ => 0) (AesM.add f g))) := by rw [← hw8]; exact (upTo_step (bs.setCell_same k _)).drew
      have et : Blk w8 (gs + 1) 35 (ar 16 (upTo k (fun _ => 0) (AesM.add (XtM.dbl f) (XtM.dbl g)))) := by rw [← hw8]; exact (bt.setCell_other (by show gs ≠ _; omega) _).drew
      have eb : Below W.heap.size W w8 := by rw [← hw8]; refine (hb.setCell ?_ _).drew; show W.heap.size ≤ gs; omega
      clear hw8 b0 b1 bx by' bs bt hb c0 c1 c3 c4
      have c0 : w8.cell? ⟨gx, k, none⟩ = some (.int .u8 (XtM.dbl f k : Nat)) := by rw [ex.cell, get_ar hlt]
      have c1 : w8.cell? ⟨gy, k, none⟩ = some (.int .u8 (XtM.dbl g k : Nat)) := by rw [ey.cell, get_ar hlt]
      have c3 := et.frozen k
      have c4 := (et.cell k).trans (get_ar hlt)
      go_still_tail 9, (by kernel_rfl)
      change wpList _ _ _ _ _ w8.drew
      rw [u8_xor_nat _ _ (DF.out k) (DG.out k)]
      go_wp2_with fail
      go_roundw
      case rel =>
        refine ⟨k + 1, by omega, by go_num, (e0.setCell_other (by show gs + 1 ≠ _; omega) _).drew, (e1.setCell_other (by show gs + 1 ≠ _; omega) _).drew, (ex.setCell_other (by show gs + 1 ≠ _; omega) _).drew, (ey.setCell_other (by show gs + 1 ≠ _; omega) _).drew, (es.setCell_other (by show gs + 1 ≠ _; omega) _).drew, (upTo_step (et.setCell_same k _)).drew, (eb.setCell ?_ _).drew⟩
        show W.heap.size ≤ gs + 1
        omega
      case measure => simp [intOf]; omega
    · have tk : decide ((k : Int) < 16) = false := by simp; omega
      rw [upTo_all (by omega)] at bs bt
      go_wp2_with fail
      have d0 := hid b0
      have d1 := hid b1
      have dx := hid bx
      have dy := hid by'
      have ds := hid bs
      have dt := hid bt
      have db := hid hb
      clear b0 b1 bx by' bs bt hb
      obtain ⟨eq, heq⟩ : ∃ eq, eqA 16 f g = eq := ⟨_, rfl⟩
      have HEQ := hid heq
      clear heq
      refine wp_region_tail (C := fun w' => Below wr.heap.size wr w') 17 (by kernel_rfl) (by kernel_rfl) (by kernel_rfl) (Below.refl _ _).drew ?_
      simp only [List.take_succ_cons, List.take_zero, List.drop_succ_cons, List.drop_zero]
      apply kldA tBk
      · rfl
      · rfl
      · exact fun w' hw' => (dx.out.below hw' dx.out.lt).head
      simp only [Act.put, List.setIfInBounds_toArray, List.set_cons_succ, List.set_cons_zero]
      apply kldA tBk
      · rfl
      · rfl
      · exact fun w' hw' => (dy.out.below hw' dy.out.lt).head
      simp only [Act.put, List.setIfInBounds_toArray, List.set_cons_succ, List.set_cons_zero]
      apply keqA eq
      · rfl
      · rfl
      · rfl
      · exact (eqA_dbl HF.out HG.out).trans HEQ.out
      simp only [Act.put, List.setIfInBounds_toArray, List.set_cons_succ, List.set_cons_zero]
      apply kldA tBk
      · rfl
      · rfl
      · exact fun w' hw' => (d0.out.below hw' d0.out.lt).head
      simp only [Act.put, List.setIfInBounds_toArray, List.set_cons_succ, List.set_cons_zero]
      apply kldA tBk
      · rfl
      · rfl
      · exact fun w' hw' => (d1.out.below hw' d1.out.lt).head
      simp only [Act.put, List.setIfInBounds_toArray, List.set_cons_succ, List.set_cons_zero]
      apply keqA eq
      · rfl
      · rfl
      · rfl
      · exact HEQ.out
      simp only [Act.put, List.setIfInBounds_toArray, List.set_cons_succ, List.set_cons_zero]
      apply wpK_val
      · rfl
      · intro w' hw'
        go_simp
        first | exact rfl | exact ⟨rfl, hw'⟩
      simp only [Act.put, List.setIfInBounds_toArray, List.set_cons_succ, List.set_cons_zero]
      apply wpK_val
      · rfl
      · intro w' hw'
        go_simp
        first | exact rfl | exact ⟨rfl, hw'⟩
      simp only [Act.put, List.setIfInBounds_toArray, List.set_cons_succ, List.set_cons_zero]
      apply kldA tBk
      · rfl
      · rfl
      · exact fun w' hw' => (ds.out.below hw' ds.out.lt).head
      simp only [Act.put, List.setIfInBounds_toArray, List.set_cons_succ, List.set_cons_zero]
      apply wpK_val
      · rfl
      · intro w' hw'
        go_simp
        exact (double_any (AesM.add f g) (XtM.add_bt HF.out HG.out) w').mono fun e w2 h => ⟨h.1, hw'.trans (h.2.mono hw'.size)⟩
      simp only [Act.put, List.setIfInBounds_toArray, List.set_cons_succ, List.set_cons_zero]
      apply kldA tBk
      · rfl
      · rfl
      · exact fun w' hw' => (dt.out.below hw' dt.out.lt).head
      simp only [Act.put, List.setIfInBounds_toArray, List.set_cons_succ, List.set_cons_zero]
      apply keqA true
      · rfl
      · rfl
      · rfl
      · exact eqA_yes fun j _ => XtM.dbl_add HF.out HG.out j
      simp only [Act.put, List.setIfInBounds_toArray, List.set_cons_succ, List.set_cons_zero]
      apply wpK_val
      · rfl
      · intro w' hw'
        go_simp
        first | exact rfl | exact ⟨rfl, hw'⟩
      simp only [Act.put, List.setIfInBounds_toArray, List.set_cons_succ, List.set_cons_zero]
      apply wpK_val
      · rfl
      · intro w' hw'
        go_simp
        first | exact rfl | exact ⟨rfl, hw'⟩
      simp only [Act.put, List.setIfInBounds_toArray, List.set_cons_succ, List.set_cons_zero]
      apply wpK_val
      · rfl
      · intro w' hw'
        go_simp
        exact (works_any w').mono fun e w2 h => ⟨h.1, hw'.trans (h.2.mono hw'.size)⟩
      simp only [Act.put, List.setIfInBounds_toArray, List.set_cons_succ, List.set_cons_zero]
      apply wpK_val
      · rfl
      · intro w' hw'
        go_simp
        first | exact rfl | exact ⟨rfl, hw'⟩
      simp only [Act.put, List.setIfInBounds_toArray, List.set_cons_succ, List.set_cons_zero]
      apply wpK_val
      · rfl
      · intro w' hw'
        go_simp
        first | exact rfl | exact ⟨rfl, hw'⟩
      simp only [Act.put, List.setIfInBounds_toArray, List.set_cons_succ, List.set_cons_zero]
      refine wpK_nil fun w9 hw9 => ?_
      have rb := db.out.trans (hw9.mono db.out.size)
      clear d0 d1 dx dy ds dt db hw9
      go_wp2_with fail
      go_ret
      exact ⟨rfl, rb⟩
end XtP
end Go.Proofs.Ytfnepbkgmopjcaa
