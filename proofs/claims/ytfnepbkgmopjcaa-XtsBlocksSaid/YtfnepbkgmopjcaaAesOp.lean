/-
  Contracts of (*aes.Cipher).otherBox, (*aes.Cipher).Open.
-/
import Derived.Test.YtfnepbkgmopjcaaAesO
namespace Go.Proofs.Ytfnepbkgmopjcaa
open Go.ChangeShapes Go.WideShapes Go.ChangeAt Go.RowKit
open AesM (Bt)
attribute [local go_sem] Gives
/-- A store into a block that was not there. -/
theorem only_new {a b : World} {g k : Nat} (h : a.grownBy b (some g)) (hk : a.heap.size ≤ k) (cs : Array Value) : a.grownBy (b.setRow k cs) (some g) :=
  ⟨h.os, h.tape, h.output, by simpa [World.setRow] using h.size, fun i hi hne => (Go.setRow_other b k i cs (by omega)).trans (h.block i hi hne)⟩
namespace AesP
set_option maxRecDepth 100000 in
theorem obox_any (g : Nat) (K : Nat → Nat) (b : Bool) (w : World) (hc : Cip w g K b) :
    Calls Try.prog 41 #[.pointer (some ⟨g, 0, none⟩)] w fun e w' => e = .returned (.pointer (some ⟨g, 500, none⟩)) ∧ Cip w' g K true ∧ w.grownBy w' (some g) := by
  have hmf : ∀ (fn : Fn) (first cap : Array Value) (w : World), (Instr.makeFunc fn first cap).run Try.prog w = .ok (.func fn first cap) w := fun _ _ _ _ => rfl
  have hg := cip_lt hc
  have HC := hid hc
  clear hc
  go_enter Try.func41, Try.ntmps41
  go_upto_region 1 with fail
  generalize hw1 : World.alloc w _ = w1
  have p1 : w1.cell? ⟨w.heap.size, 0, none⟩ = some (.pointer (some ⟨g, 0, none⟩)) := by rw [← hw1]; simp
  have ho1 : w.grownBy w1 (some g) := by rw [← hw1]; exact only_of_below ((Below.refl w.heap.size _).alloc (Nat.le_refl _) _) (Nat.le_refl _)
  have c1 : Cip w1 g K b := by rw [← hw1]; exact Blk.alloc HC.out _
  have hlt : w.heap.size < w1.heap.size := by rw [← hw1]; simp
  clear hw1 HC
  cases b with
  | false =>
    have C1 := hid c1
    have P1 := hid p1
    clear c1
    go_wp2_with (go_at_call 51; refine (do_first g w.heap.size K _ (by omega) P1.out C1.out).mono ?_; rintro e w2 ⟨rfl, h2, ho2⟩; have p2 := (World.cell?_of_block (w := w1) (a := ⟨w.heap.size, 0, none⟩) (ho2.block w.heap.size hlt (fun e => by injection e; omega))).trans P1.out)
    go_ret
    exact ⟨rfl, h2, only_trans ho1 ho2⟩
  | true =>
    have C1 := hid c1
    have d1 := hid (cip_at c1 (j := 497) (by omega))
    clear c1
    go_wp2_with (go_at_call 51; refine (do_done ⟨g, 497, none⟩ _ _ d1.out).mono ?_; rintro e w2 ⟨rfl, rfl⟩)
    go_ret
    exact ⟨rfl, C1.out, ho1⟩
set_option maxHeartbeats 400000 in
set_option maxRecDepth 100000 in
theorem open_any (K f : Nat → Nat) (b : Bool) (hK : Bt K) (hf : Bt f) (g : Nat) (w : World) (hc : Cip w g K b) :
    Calls Try.prog 25 #[.pointer (some ⟨g, 0, none⟩), .agg (ar 16 f)] w fun e w' => e = .returned (.agg (ar 16 (AesM.open' K f))) ∧ Cip w' g K true ∧ w.grownBy w' (some g) := by
  have HK := hid hK
  have HF := hid hf
  have HC := hid hc
  have hg := cip_lt hc
  clear hK hf hc
  go_enter Try.func25, Try.ntmps25
  go_upto_region 1 with (with_reducible apply alA tBk)
  generalize hw1 : World.alloc (World.alloc w _) _ = w1
  have b1 := hid (show Blk w1 w.heap.size 35 (ar 16 f) by rw [← hw1]; exact (Blk.new _ _ _).alloc _)
  have b2 := hid (show Blk w1 (w.heap.size + 1) 35 (ar 16 fun _ => 0) by rw [← hw1]; exact Blk.top rfl (by simp))
  have hb := hid (show w.grownBy w1 (some g) by rw [← hw1]; exact only_of_below (((Below.refl w.heap.size _).alloc (Nat.le_refl _) _).alloc (by simp) _) (Nat.le_refl _))
  have c1 := hid (show Cip w1 g K b by rw [← hw1]; exact Blk.alloc (Blk.alloc HC.out _) _)
  have hm := cip_made c1.out
  have hs1 : w.heap.size + 1 < w1.heap.size := b2.out.lt
  clear hw1 HC
  go_upto_region 3 with fail
  clear hm
  go_wp2_with (go_at_call 41; refine (obox_any g K b _ c1.out).mono ?_; rintro e w2 ⟨rfl, x1, x2⟩)
  have q1 := hid (b1.out.only x2 (by omega))
  have q2 := hid (b2.out.only x2 (by omega))
  have hb2 := hid (only_trans hb.out x2)
  have c2 := hid x1
  have hs2 : w.heap.size + 1 < w2.heap.size := q2.out.lt
  clear b1 b2 hb c1 hs1 x1 x2
  refine wp_region_new1 (C := fun w' => Below w2.heap.size w2 w') 10 59 (ar 16 fun _ => 0) 6 rfl (by kernel_rfl) (by kernel_rfl) (by kernel_rfl) (run_alloc_ar tSt) (Below.refl _ _).drew (fun w' hw' => hw'.alloc hw'.size _) (fun w' hw' => hw'.size) ?_
  simp only [List.take_succ_cons, List.take_zero, List.drop_succ_cons, List.drop_zero]
  apply bldA tBk
  · rfl
  · rfl
  · exact fun w' hw' => (q1.out.below hw' q1.out.lt).head
  simp only [Act.put, List.setIfInBounds_toArray, List.set_cons_succ, List.set_cons_zero]
  apply wpB_val
  · rfl
  · intro w' hw'
    have hbl := Below.refl w'.heap.size w'
    go_simp
    first | exact rfl | exact ⟨rfl, hbl⟩ | exact ⟨rfl, hw', hbl⟩
  simp only [Act.put, List.setIfInBounds_toArray, List.set_cons_succ, List.set_cons_zero]
  apply wpB_val
  · rfl
  · intro w' hw'
    have hbl := Below.refl w'.heap.size w'
    go_simp
    first | exact rfl | exact ⟨rfl, hbl⟩ | exact ⟨rfl, hw', hbl⟩
  simp only [Act.put, List.setIfInBounds_toArray, List.set_cons_succ, List.set_cons_zero]
  apply wpB_val
  · rfl
  · intro w' hw'
    have hbl := Below.refl w'.heap.size w'
    go_simp
    first | exact rfl | exact ⟨rfl, hbl⟩ | exact ⟨rfl, hw', hbl⟩
  simp only [Act.put, List.setIfInBounds_toArray, List.set_cons_succ, List.set_cons_zero]
  apply wpB_val
  · rfl
  · intro w' hw'
    have hbl := Below.refl w'.heap.size w'
    go_simp
    first | exact rfl | exact ⟨rfl, hbl⟩ | exact ⟨rfl, hw', hbl⟩
  simp only [Act.put, List.setIfInBounds_toArray, List.set_cons_succ, List.set_cons_zero]
  apply bldA tSt
  · rfl
  · rfl
  · exact fun w' hw' => range_below (cip_key c2.out (r := 14) (by omega)) hw' (cip_lt c2.out)
  simp only [Act.put, List.setIfInBounds_toArray, List.set_cons_succ, List.set_cons_zero]
  apply wpB_val
  · rfl
  · intro w' hw'
    go_simp
    exact (add_any f (AesM.rk K 14) HF.out (AesM.rk_bt HK.out 14) w').mono fun e w2 h => ⟨h.1, hw'.trans (h.2.mono hw'.size), h.2⟩
  simp only [Act.put, List.setIfInBounds_toArray, List.set_cons_succ, List.set_cons_zero]
  apply wpB_val
  · rfl
  · intro w' hw'
    go_simp
    exact (back_any (AesM.add f (AesM.rk K 14)) w').mono fun e w2 h => ⟨h.1, hw'.trans (h.2.mono hw'.size), h.2⟩
  simp only [Act.put, List.setIfInBounds_toArray, List.set_cons_succ, List.set_cons_zero]
  apply wpB_val
  · rfl
  · intro w' hw'
    have hbl := Below.refl w'.heap.size w'
    go_simp
    first | exact rfl | exact ⟨rfl, hbl⟩ | exact ⟨rfl, hw', hbl⟩
  simp only [Act.put, List.setIfInBounds_toArray, List.set_cons_succ, List.set_cons_zero]
  apply wpB_val
  · rfl
  · intro w' hw'
    go_simp
    exact (each_any (AesM.back (AesM.add f (AesM.rk K 14))) AesM.oboxF (AesM.back_bt (AesM.add_bt HF.out (AesM.rk_bt HK.out 14))) g 500 w' (Nat.lt_of_lt_of_le (cip_lt c2.out) hw'.size) (range_below (cip_other c2.out) hw' (cip_lt c2.out))).mono fun e w2 h => ⟨h.1, hw'.trans (h.2.mono hw'.size), h.2⟩
  simp only [Act.put, List.setIfInBounds_toArray, List.set_cons_succ, List.set_cons_zero]
  refine wpB_nil fun g5 w5 hw5 q5 hg5 => ?_
  have d2 := hid (q2.out.below hw5 q2.out.lt)
  have dc := hid (show Cip w5 g K true from Blk.below c2.out hw5 (cip_lt c2.out))
  have db := hid (only_below hb2.out hw5 hb2.out.size)
  have h2lt : w.heap.size + 1 < g5 := Nat.lt_of_lt_of_le q2.out.lt hg5
  have hgl : g < g5 := Nat.lt_of_lt_of_le (cip_lt c2.out) hg5
  clear q1 q2 hb2 c2 hw5 hg5 hs2
  unfold ptr
  go_upto_region 5 with ((with_reducible apply stA tSt); rfl; rfl; exact q5)
  generalize hw6 : World.setRow _ _ _ = w6
  have e2 := hid (show Blk w6 (w.heap.size + 1) 35 (ar 16 fun _ => 0) by rw [← hw6]; exact d2.out.setRow_other (by omega) _)
  have ec := hid (show Cip w6 g K true by rw [← hw6]; exact Blk.setRow_other dc.out (by omega) _)
  have eb := hid (show w.grownBy w6 (some g) by rw [← hw6]; exact only_new db.out (by omega) _)
  have e5 := hid (show Blk w6 g5 59 (ar 16 (AesM.os K f 0)) by rw [← hw6]; exact q5.setRow_same _)
  clear hw6 d2 dc db q5 w5
  go_wp2_with fail
  go_loopw [7] (fun i wr => ∃ m : Nat, m ≤ 13 ∧ i = .int .i64 (13 - (m : Int)) ∧ Hid (Blk wr (w.heap.size + 1) 35 (ar 16 fun _ => 0)) ∧ Hid (Cip wr g K true) ∧ Hid (w.grownBy wr (some g)) ∧ Hid (Blk wr g5 59 (ar 16 (AesM.os K f m)))) (fun i _ => (intOf i).toNat)
  case atStart => exact ⟨0, by omega, rfl, e2, ec, eb, e5⟩
  case round =>
    clear e2 ec eb e5
    obtain ⟨m, hm, rfl, d2, dc, db, d5⟩ := hrel
    have cg := cip_lt dc.out
    obtain ⟨r, hr⟩ : ∃ r, r = 13 - m := ⟨_, rfl⟩
    have e1 : 13 - (m : Int) = (r : Int) := by omega
    have HR := hid hr
    rw [e1]
    clear e1
    by_cases hlt : 0 < r
    · have tr : (0 : Int) < (r : Int) := by omega
      have tr15 : (r : Int) < 15 := by omega
      have hr15 : r < 15 := by omega
      have hm13 : m < 13 := by omega
      clear hr
      go_wp2_with fail
      refine wp_region_tail (C := fun w' => Below wr.heap.size wr w') 12 (by kernel_rfl) (by kernel_rfl) (by kernel_rfl) (Below.refl _ _).drew ?_
      simp only [List.take_succ_cons, List.take_zero, List.drop_succ_cons, List.drop_zero]
      apply kldA tSt
      · rfl
      · rfl
      · exact fun w' hw' => (d5.out.below hw' d5.out.lt).head
      simp only [Act.put, List.setIfInBounds_toArray, List.set_cons_succ, List.set_cons_zero]
      apply wpK_val
      · rfl
      · intro w' hw'
        go_simp
        first | exact rfl | exact ⟨rfl, hw'⟩
      simp only [Act.put, List.setIfInBounds_toArray, List.set_cons_succ, List.set_cons_zero]
      apply wpK_val
      · rfl
      · intro w' hw'
        go_simp
        first | exact rfl | exact ⟨rfl, hw'⟩
      simp only [Act.put, List.setIfInBounds_toArray, List.set_cons_succ, List.set_cons_zero]
      apply wpK_val
      · rfl
      · intro w' hw'
        go_simp
        first | exact rfl | exact ⟨rfl, hw'⟩
      simp only [Act.put, List.setIfInBounds_toArray, List.set_cons_succ, List.set_cons_zero]
      apply wpK_val
      · rfl
      · intro w' hw'
        go_simp
        first | exact rfl | exact ⟨rfl, hw'⟩
      simp only [Act.put, List.setIfInBounds_toArray, List.set_cons_succ, List.set_cons_zero]
      apply wpK_val
      · rfl
      · intro w' hw'
        go_simp
        first | exact rfl | exact ⟨rfl, hw'⟩
      simp only [Act.put, List.setIfInBounds_toArray, List.set_cons_succ, List.set_cons_zero]
      apply kldA tSt
      · rfl
      · rfl
      · exact fun w' hw' => range_below (cip_key dc.out hr15) hw' cg
      simp only [Act.put, List.setIfInBounds_toArray, List.set_cons_succ, List.set_cons_zero]
      apply wpK_val
      · rfl
      · intro w' hw'
        go_simp
        exact (add_any (AesM.os K f m) (AesM.rk K r) (AesM.os_bt _ _ _) (AesM.rk_bt HK.out r) w').mono fun e w2 h => ⟨h.1, hw'.trans (h.2.mono hw'.size)⟩
      simp only [Act.put, List.setIfInBounds_toArray, List.set_cons_succ, List.set_cons_zero]
      apply wpK_val
      · rfl
      · intro w' hw'
        go_simp
        exact (mixB_any (AesM.add (AesM.os K f m) (AesM.rk K r)) (AesM.add_bt (AesM.os_bt _ _ _) (AesM.rk_bt HK.out r)) w').mono fun e w2 h => ⟨h.1, hw'.trans (h.2.mono hw'.size)⟩
      simp only [Act.put, List.setIfInBounds_toArray, List.set_cons_succ, List.set_cons_zero]
      apply wpK_val
      · rfl
      · intro w' hw'
        go_simp
        exact (back_any (AesM.mixB (AesM.add (AesM.os K f m) (AesM.rk K r))) w').mono fun e w2 h => ⟨h.1, hw'.trans (h.2.mono hw'.size)⟩
      simp only [Act.put, List.setIfInBounds_toArray, List.set_cons_succ, List.set_cons_zero]
      apply wpK_val
      · rfl
      · intro w' hw'
        go_simp
        first | exact rfl | exact ⟨rfl, hw'⟩
      simp only [Act.put, List.setIfInBounds_toArray, List.set_cons_succ, List.set_cons_zero]
      apply wpK_val
      · rfl
      · intro w' hw'
        go_simp
        exact (each_any (AesM.back (AesM.mixB (AesM.add (AesM.os K f m) (AesM.rk K r)))) AesM.oboxF (AesM.back_bt (AesM.mix_bt (AesM.mix_bt (AesM.mix_bt (AesM.add_bt (AesM.os_bt _ _ _) (AesM.rk_bt HK.out r)))))) g 500 w' (Nat.lt_of_lt_of_le cg hw'.size) (range_below (cip_other dc.out) hw' cg)).mono fun e w2 h => ⟨h.1, hw'.trans (h.2.mono hw'.size)⟩
      simp only [Act.put, List.setIfInBounds_toArray, List.set_cons_succ, List.set_cons_zero]
      refine wpK_nil fun w5 hw5 => ?_
      have x2 := d2.out.below hw5 d2.out.lt
      have xc : Cip w5 g K true := Blk.below dc.out hw5 cg
      have x5 := d5.out.below hw5 d5.out.lt
      have xb := only_below db.out hw5 db.out.size
      have et : AesM.each (AesM.back (AesM.mixB (AesM.add (AesM.os K f m) (AesM.rk K r)))) AesM.oboxF = AesM.os K f (m + 1) := by rw [HR.out]; rfl
      rw [et]
      clear et d2 dc d5 db hw5 cg
      have X2 := hid x2
      have XC := hid xc
      have XB := hid xb
      clear x2 xc xb
      go_wp2_with ((with_reducible apply stA tSt); rfl; rfl; exact x5)
      go_roundw
      case rel => exact ⟨m + 1, by omega, by have := HR.out; congr 1; omega, hid (X2.out.setRow_other (by omega) _), hid (Blk.setRow_other XC.out (by omega) _), hid (only_new XB.out (by omega) _), hid (x5.setRow_same _)⟩
      case measure => simp [intOf]; omega
    · obtain rfl : m = 13 := by omega
      obtain rfl : r = 0 := by omega
      clear hr
      go_wp2_with fail
      refine wp_region_tail (C := fun w' => Below wr.heap.size wr w') 7 (by kernel_rfl) (by kernel_rfl) (by kernel_rfl) (Below.refl _ _).drew ?_
      simp only [List.take_succ_cons, List.take_zero, List.drop_succ_cons, List.drop_zero]
      apply kldA tSt
      · rfl
      · rfl
      · exact fun w' hw' => (d5.out.below hw' d5.out.lt).head
      simp only [Act.put, List.setIfInBounds_toArray, List.set_cons_succ, List.set_cons_zero]
      apply wpK_val
      · rfl
      · intro w' hw'
        go_simp
        first | exact rfl | exact ⟨rfl, hw'⟩
      simp only [Act.put, List.setIfInBounds_toArray, List.set_cons_succ, List.set_cons_zero]
      apply wpK_val
      · rfl
      · intro w' hw'
        go_simp
        first | exact rfl | exact ⟨rfl, hw'⟩
      simp only [Act.put, List.setIfInBounds_toArray, List.set_cons_succ, List.set_cons_zero]
      apply wpK_val
      · rfl
      · intro w' hw'
        go_simp
        first | exact rfl | exact ⟨rfl, hw'⟩
      simp only [Act.put, List.setIfInBounds_toArray, List.set_cons_succ, List.set_cons_zero]
      apply wpK_val
      · rfl
      · intro w' hw'
        go_simp
        first | exact rfl | exact ⟨rfl, hw'⟩
      simp only [Act.put, List.setIfInBounds_toArray, List.set_cons_succ, List.set_cons_zero]
      apply kldA tSt
      · rfl
      · rfl
      · exact fun w' hw' => range_below (cip_key dc.out (r := 0) (by omega)) hw' cg
      simp only [Act.put, List.setIfInBounds_toArray, List.set_cons_succ, List.set_cons_zero]
      apply wpK_val
      · rfl
      · intro w' hw'
        go_simp
        exact (add_any (AesM.os K f 13) (AesM.rk K 0) (AesM.os_bt _ _ _) (AesM.rk_bt HK.out 0) w').mono fun e w2 h => ⟨h.1, hw'.trans (h.2.mono hw'.size)⟩
      simp only [Act.put, List.setIfInBounds_toArray, List.set_cons_succ, List.set_cons_zero]
      refine wpK_nil fun w5 hw5 => ?_
      have x2 := d2.out.below hw5 d2.out.lt
      have xc : Cip w5 g K true := Blk.below dc.out hw5 cg
      have xb := only_below db.out hw5 db.out.size
      clear d2 dc d5 db hw5 cg
      go_wp2_with ((with_reducible apply stA tBk); rfl; rfl; exact x2)
      apply ret_ar tBk Try.results25
      · rfl
      · rfl
      · exact x2.setRow_same _
      exact ⟨rfl, Blk.setRow_other xc (by omega) _, only_new xb (by omega) _⟩
end AesP
end Go.Proofs.Ytfnepbkgmopjcaa
