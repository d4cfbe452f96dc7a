/-
  Contract of (*aes.Cipher).Seal.
-/
import Derived.Test.YtfnepbkgmopjcaaAesNew
import Derived.Test.YtfnepbkgmopjcaaArB
namespace Go.Proofs.Ytfnepbkgmopjcaa
open Go.ChangeShapes Go.WideShapes Go.ChangeAt Go.RowKit
open AesM (Bt)
attribute [local go_sem] Gives
namespace AesP
theorem cip_lt {w : World} {g : Nat} {K : Nat → Nat} {b : Bool} (h : Cip w g K b) : g < w.heap.size := Blk.lt h
set_option maxHeartbeats 400000 in
set_option maxRecDepth 100000 in
theorem seal_any (K f : Nat → Nat) (b : Bool) (hK : Bt K) (hf : Bt f) (g : Nat) (w : World) (hc : Cip w g K b) :
    Calls Try.prog 18 #[.pointer (some ⟨g, 0, none⟩), .agg (ar 16 f)] w fun e w' => e = .returned (.agg (ar 16 (AesM.sealM K f))) ∧ Below w.heap.size w w' := by
  have HK := hid hK
  have HF := hid hf
  have HC := hid hc
  have hg := cip_lt hc
  clear hK hf hc
  go_enter Try.func18, Try.ntmps18
  go_upto_region 1 with (with_reducible apply alA tBk)
  generalize hw1 : World.alloc (World.alloc w _) _ = w1
  have b1 := hid (show Blk w1 w.heap.size 35 (ar 16 f) by rw [← hw1]; exact (Blk.new _ _ _).alloc _)
  have b2 := hid (show Blk w1 (w.heap.size + 1) 35 (ar 16 fun _ => 0) by rw [← hw1]; exact Blk.top rfl (by simp))
  have hb := hid (show Below w.heap.size w w1 by rw [← hw1]; exact ((Below.refl _ _).alloc (Nat.le_refl _) _).alloc (by simp) _)
  have c1 := hid (show Cip w1 g K b from Blk.below HC.out hb.out hg)
  have hm := cip_made c1.out
  have hs1 : w.heap.size < w1.heap.size := b1.out.lt
  clear hw1 HC
  go_wp2_with fail
  clear hm
  refine wp_region_new1 (C := fun w' => Below w1.heap.size w1 w') 7 59 (ar 16 fun _ => 0) 5 rfl (by kernel_rfl) (by kernel_rfl) (by kernel_rfl) (run_alloc_ar tSt) (Below.refl _ _).drew (fun w' hw' => hw'.alloc hw'.size _) (fun w' hw' => hw'.size) ?_
  simp only [List.take_succ_cons, List.take_zero, List.drop_succ_cons, List.drop_zero]
  apply bldA tBk
  · rfl
  · rfl
  · exact fun w' hw' => (b1.out.below hw' b1.out.lt).head
  simp only [Act.put, List.setIfInBounds_toArray, List.set_cons_succ, List.set_cons_zero]
  apply wpB_val
  · rfl
  · intro w' hw'
    have hbl := Below.refl w'.heap.size w'
    go_simp
    first | exact rfl | exact ⟨rfl, hbl⟩ | exact ⟨rfl, hw', hbl⟩
  simp only [Act.put, List.setIfInBounds_toArray, List.set_cons_succ, List.set_cons_zero]
  apply wpB_val
  · rfl
  · intro w' hw'
    have hbl := Below.refl w'.heap.size w'
    go_simp
    first | exact rfl | exact ⟨rfl, hbl⟩ | exact ⟨rfl, hw', hbl⟩
  simp only [Act.put, List.setIfInBounds_toArray, List.set_cons_succ, List.set_cons_zero]
  apply wpB_val
  · rfl
  · intro w' hw'
    have hbl := Below.refl w'.heap.size w'
    go_simp
    first | exact rfl | exact ⟨rfl, hbl⟩ | exact ⟨rfl, hw', hbl⟩
  simp only [Act.put, List.setIfInBounds_toArray, List.set_cons_succ, List.set_cons_zero]
  apply wpB_val
  · rfl
  · intro w' hw'
    have hbl := Below.refl w'.heap.size w'
    go_simp
    first | exact rfl | exact ⟨rfl, hbl⟩ | exact ⟨rfl, hw', hbl⟩
  simp only [Act.put, List.setIfInBounds_toArray, List.set_cons_succ, List.set_cons_zero]
  apply bldA tSt
  · rfl
  · rfl
  · exact fun w' hw' => range_below (cip_key c1.out (r := 0) (by omega)) hw' (cip_lt c1.out)
  simp only [Act.put, List.setIfInBounds_toArray, List.set_cons_succ, List.set_cons_zero]
  apply wpB_val
  · rfl
  · intro w' hw'
    go_simp
    exact (add_any f (AesM.rk K 0) HF.out (AesM.rk_bt HK.out 0) w').mono fun e w2 h => ⟨h.1, hw'.trans (h.2.mono hw'.size), h.2⟩
  simp only [Act.put, List.setIfInBounds_toArray, List.set_cons_succ, List.set_cons_zero]
  refine wpB_nil fun g5 w5 hw5 q5 hg5 => ?_
  have d2 := hid (b2.out.below hw5 b2.out.lt)
  have dc := hid (show Cip w5 g K b from Blk.below c1.out hw5 (cip_lt c1.out))
  have db := hid (hb.out.trans (hw5.mono hb.out.size))
  have h2lt : w.heap.size + 1 < g5 := Nat.lt_of_lt_of_le b2.out.lt hg5
  have hgl : g < g5 := Nat.lt_of_lt_of_le (cip_lt c1.out) hg5
  clear b1 b2 hb c1 hw5 hg5 hs1
  unfold ptr
  go_upto_region 4 with ((with_reducible apply stA tSt); rfl; rfl; exact q5)
  generalize hw6 : World.setRow _ _ _ = w6
  have e2 := hid (show Blk w6 (w.heap.size + 1) 35 (ar 16 fun _ => 0) by rw [← hw6]; exact d2.out.setRow_other (by omega) _)
  have ec := hid (show Cip w6 g K b by rw [← hw6]; exact Blk.setRow_other dc.out (by omega) _)
  have eb := hid (show Below w.heap.size w w6 by rw [← hw6]; exact below_setRow db.out (by omega) _)
  have e5 := hid (show Blk w6 g5 59 (ar 16 (AesM.ss K f 0)) by rw [← hw6]; exact q5.setRow_same _)
  clear hw6 d2 dc db q5 w5
  go_wp2_with fail
  go_loopw [6] (fun i wr => ∃ m : Nat, m ≤ 13 ∧ i = .int .i64 ((m : Int) + 1) ∧ Hid (Blk wr (w.heap.size + 1) 35 (ar 16 fun _ => 0)) ∧ Hid (Cip wr g K b) ∧ Hid (Below w.heap.size w wr) ∧ Hid (Blk wr g5 59 (ar 16 (AesM.ss K f m)))) (fun i _ => 14 - (intOf i).toNat)
  case atStart => exact ⟨0, by omega, rfl, e2, ec, eb, e5⟩
  case round =>
    clear e2 ec eb e5
    obtain ⟨m, hm, rfl, d2, dc, db, d5⟩ := hrel
    have cg := cip_lt dc.out
    by_cases hlt : m < 13
    · obtain ⟨r, hr⟩ : ∃ r, r = m + 1 := ⟨_, rfl⟩
      have e1 : (m : Int) + 1 = (r : Int) := by omega
      have tr : (r : Int) < 14 := by omega
      have tr15 : (r : Int) < 15 := by omega
      have hr15 : r < 15 := by omega
      have HR := hid hr
      clear hr
      go_wp2_with fail
      refine wp_region_tail (C := fun w' => Below wr.heap.size wr w') 14 (by kernel_rfl) (by kernel_rfl) (by kernel_rfl) (Below.refl _ _).drew ?_
      simp only [List.take_succ_cons, List.take_zero, List.drop_succ_cons, List.drop_zero]
      apply kldA tSt
      · rfl
      · rfl
      · exact fun w' hw' => (d5.out.below hw' d5.out.lt).head
      simp only [Act.put, List.setIfInBounds_toArray, List.set_cons_succ, List.set_cons_zero]
      apply wpK_val
      · rfl
      · intro w' hw'
        go_simp
        first | exact rfl | exact ⟨rfl, hw'⟩
      simp only [Act.put, List.setIfInBounds_toArray, List.set_cons_succ, List.set_cons_zero]
      apply wpK_val
      · rfl
      · intro w' hw'
        go_simp
        first | exact rfl | exact ⟨rfl, hw'⟩
      simp only [Act.put, List.setIfInBounds_toArray, List.set_cons_succ, List.set_cons_zero]
      apply wpK_val
      · rfl
      · intro w' hw'
        go_simp
        first | exact rfl | exact ⟨rfl, hw'⟩
      simp only [Act.put, List.setIfInBounds_toArray, List.set_cons_succ, List.set_cons_zero]
      apply wpK_val
      · rfl
      · intro w' hw'
        go_simp
        exact (each_any (AesM.ss K f m) AesM.boxF (AesM.ss_bt HK.out HF.out m) g 241 w' (Nat.lt_of_lt_of_le cg hw'.size) (range_below (cip_box dc.out) hw' cg)).mono fun e w2 h => ⟨h.1, hw'.trans (h.2.mono hw'.size)⟩
      simp only [Act.put, List.setIfInBounds_toArray, List.set_cons_succ, List.set_cons_zero]
      apply wpK_val
      · rfl
      · intro w' hw'
        go_simp
        exact (turn_any (AesM.each (AesM.ss K f m) AesM.boxF) w').mono fun e w2 h => ⟨h.1, hw'.trans (h.2.mono hw'.size)⟩
      simp only [Act.put, List.setIfInBounds_toArray, List.set_cons_succ, List.set_cons_zero]
      apply wpK_val
      · rfl
      · intro w' hw'
        go_simp
        exact (mix_any (AesM.turn (AesM.each (AesM.ss K f m) AesM.boxF)) (AesM.turn_bt (AesM.each_bt _)) w').mono fun e w2 h => ⟨h.1, hw'.trans (h.2.mono hw'.size)⟩
      simp only [Act.put, List.setIfInBounds_toArray, List.set_cons_succ, List.set_cons_zero]
      apply wpK_val
      · rfl
      · intro w' hw'
        go_simp
        first | exact rfl | exact ⟨rfl, hw'⟩
      simp only [Act.put, List.setIfInBounds_toArray, List.set_cons_succ, List.set_cons_zero]
      apply wpK_val
      · rfl
      · intro w' hw'
        go_simp
        first | exact rfl | exact ⟨rfl, hw'⟩
      simp only [Act.put, List.setIfInBounds_toArray, List.set_cons_succ, List.set_cons_zero]
      apply wpK_val
      · rfl
      · intro w' hw'
        go_simp
        first | exact rfl | exact ⟨rfl, hw'⟩
      simp only [Act.put, List.setIfInBounds_toArray, List.set_cons_succ, List.set_cons_zero]
      apply wpK_val
      · rfl
      · intro w' hw'
        go_simp
        first | exact rfl | exact ⟨rfl, hw'⟩
      simp only [Act.put, List.setIfInBounds_toArray, List.set_cons_succ, List.set_cons_zero]
      apply wpK_val
      · rfl
      · intro w' hw'
        go_simp
        first | exact rfl | exact ⟨rfl, hw'⟩
      simp only [Act.put, List.setIfInBounds_toArray, List.set_cons_succ, List.set_cons_zero]
      apply kldA tSt
      · rfl
      · rfl
      · exact fun w' hw' => range_below (cip_key dc.out hr15) hw' cg
      simp only [Act.put, List.setIfInBounds_toArray, List.set_cons_succ, List.set_cons_zero]
      apply wpK_val
      · rfl
      · intro w' hw'
        go_simp
        exact (add_any _ (AesM.rk K r) (AesM.mix_bt (AesM.turn_bt (AesM.each_bt _))) (AesM.rk_bt HK.out r) w').mono fun e w2 h => ⟨h.1, hw'.trans (h.2.mono hw'.size)⟩
      simp only [Act.put, List.setIfInBounds_toArray, List.set_cons_succ, List.set_cons_zero]
      refine wpK_nil fun w5 hw5 => ?_
      have x2 := d2.out.below hw5 d2.out.lt
      have xc : Cip w5 g K b := Blk.below dc.out hw5 cg
      have x5 := d5.out.below hw5 d5.out.lt
      have xb := db.out.trans (hw5.mono db.out.size)
      have et : AesM.add (AesM.mix (AesM.turn (AesM.each (AesM.ss K f m) AesM.boxF))) (AesM.rk K r) = AesM.ss K f r := by rw [HR.out]; rfl
      rw [et]
      clear et d2 dc d5 db hw5 cg
      have X2 := hid x2
      have XC := hid xc
      have XB := hid xb
      clear x2 xc xb
      go_wp2_with ((with_reducible apply stA tSt); rfl; rfl; exact x5)
      go_roundw
      case rel => exact ⟨m + 1, by omega, by rw [← HR.out], hid (X2.out.setRow_other (by omega) _), hid (Blk.setRow_other XC.out (by omega) _), hid (below_setRow XB.out (by omega) _), hid (by rw [← HR.out]; exact x5.setRow_same _)⟩
      case measure => simp [intOf]; omega
    · obtain rfl : m = 13 := by omega
      go_wp2_with fail
      refine wp_region_tail (C := fun w' => Below wr.heap.size wr w') 12 (by kernel_rfl) (by kernel_rfl) (by kernel_rfl) (Below.refl _ _).drew ?_
      simp only [List.take_succ_cons, List.take_zero, List.drop_succ_cons, List.drop_zero]
      apply kldA tSt
      · rfl
      · rfl
      · exact fun w' hw' => (d5.out.below hw' d5.out.lt).head
      simp only [Act.put, List.setIfInBounds_toArray, List.set_cons_succ, List.set_cons_zero]
      apply wpK_val
      · rfl
      · intro w' hw'
        go_simp
        first | exact rfl | exact ⟨rfl, hw'⟩
      simp only [Act.put, List.setIfInBounds_toArray, List.set_cons_succ, List.set_cons_zero]
      apply wpK_val
      · rfl
      · intro w' hw'
        go_simp
        first | exact rfl | exact ⟨rfl, hw'⟩
      simp only [Act.put, List.setIfInBounds_toArray, List.set_cons_succ, List.set_cons_zero]
      apply wpK_val
      · rfl
      · intro w' hw'
        go_simp
        first | exact rfl | exact ⟨rfl, hw'⟩
      simp only [Act.put, List.setIfInBounds_toArray, List.set_cons_succ, List.set_cons_zero]
      apply wpK_val
      · rfl
      · intro w' hw'
        go_simp
        exact (each_any (AesM.ss K f 13) AesM.boxF (AesM.ss_bt HK.out HF.out 13) g 241 w' (Nat.lt_of_lt_of_le cg hw'.size) (range_below (cip_box dc.out) hw' cg)).mono fun e w2 h => ⟨h.1, hw'.trans (h.2.mono hw'.size)⟩
      simp only [Act.put, List.setIfInBounds_toArray, List.set_cons_succ, List.set_cons_zero]
      apply wpK_val
      · rfl
      · intro w' hw'
        go_simp
        exact (turn_any (AesM.each (AesM.ss K f 13) AesM.boxF) w').mono fun e w2 h => ⟨h.1, hw'.trans (h.2.mono hw'.size)⟩
      simp only [Act.put, List.setIfInBounds_toArray, List.set_cons_succ, List.set_cons_zero]
      apply wpK_val
      · rfl
      · intro w' hw'
        go_simp
        first | exact rfl | exact ⟨rfl, hw'⟩
      simp only [Act.put, List.setIfInBounds_toArray, List.set_cons_succ, List.set_cons_zero]
      apply wpK_val
      · rfl
      · intro w' hw'
        go_simp
        first | exact rfl | exact ⟨rfl, hw'⟩
      simp only [Act.put, List.setIfInBounds_toArray, List.set_cons_succ, List.set_cons_zero]
      apply wpK_val
      · rfl
      · intro w' hw'
        go_simp
        first | exact rfl | exact ⟨rfl, hw'⟩
      simp only [Act.put, List.setIfInBounds_toArray, List.set_cons_succ, List.set_cons_zero]
      apply wpK_val
      · rfl
      · intro w' hw'
        go_simp
        first | exact rfl | exact ⟨rfl, hw'⟩
      simp only [Act.put, List.setIfInBounds_toArray, List.set_cons_succ, List.set_cons_zero]
      apply kldA tSt
      · rfl
      · rfl
      · exact fun w' hw' => range_below (cip_key dc.out (r := 14) (by omega)) hw' cg
      simp only [Act.put, List.setIfInBounds_toArray, List.set_cons_succ, List.set_cons_zero]
      apply wpK_val
      · rfl
      · intro w' hw'
        go_simp
        exact (add_any _ (AesM.rk K 14) (AesM.turn_bt (AesM.each_bt _)) (AesM.rk_bt HK.out 14) w').mono fun e w2 h => ⟨h.1, hw'.trans (h.2.mono hw'.size)⟩
      simp only [Act.put, List.setIfInBounds_toArray, List.set_cons_succ, List.set_cons_zero]
      refine wpK_nil fun w5 hw5 => ?_
      have x2 := d2.out.below hw5 d2.out.lt
      have xb := db.out.trans (hw5.mono db.out.size)
      clear d2 dc d5 db hw5 cg
      go_wp2_with ((with_reducible apply stA tBk); rfl; rfl; exact x2)
      apply ret_ar tBk Try.results18
      · rfl
      · rfl
      · exact x2.setRow_same _
      exact ⟨rfl, below_setRow xb (by omega) _⟩
end AesP
end Go.Proofs.Ytfnepbkgmopjcaa
