/-
  Contracts of xts.each: with Seal, and with Open, of a cipher.
-/
import Derived.Test.YtfnepbkgmopjcaaXtF
import Derived.Test.YtfnepbkgmopjcaaAesR
namespace Go.Proofs.Ytfnepbkgmopjcaa
open Go.ChangeShapes Go.WideShapes Go.ChangeAt Go.RowKit
open AesM (Bt Q16)
open AesP (tBk wr_nat Cip cip_lt seal_any open_any size_u8)
namespace XtP
attribute [local go_sem] Gives
theorem sl_sec {g q : Nat} (hq : q < 64) (w : World) : (Instr.sliceAt 28 (.pointer (some ⟨g, 0, none⟩)) (some (.int .i64 q)) none none).run Try.prog w = .ok (.slice (some ⟨g, q, none⟩) (64 - q) (64 - q)) w := by
  have hl : Try.prog.arrayLen 28 = 64 := by kernel_rfl
  have he : Try.prog.elem 28 = 5 := by kernel_rfl
  rw [run_sliceAt_array_l w 28 _ (by rw [hl, he]; exact Try.underlying28) .i64 q (by omega) (by rw [hl]; omega), he, size_u8, hl]
  simp only [Result.andThen_ok, slicedAt, Int.toNat_natCast]
  rw [if_neg (by omega), Addr.add_mid, Nat.mul_one, Nat.zero_add]
/-- The cipher stands, and nothing else of old is turned. -/
def Kc (w : World) (c : Nat) (K : Nat → Nat) (w' : World) : Prop := (∃ b, Cip w' c K b) ∧ w.grownBy w' (some c)
section
variable {w w' w2 : World} {c : Nat} {K : Nat → Nat}
theorem Kc.below (h : Kc w c K w') (hb : Below w'.heap.size w' w2) (hc : c < w'.heap.size) : Kc w c K w2 :=
  ⟨by obtain ⟨b, h1⟩ := h.1; exact ⟨b, Blk.below h1 hb hc⟩, only_below h.2 hb h.2.size⟩
theorem Kc.lt (h : Kc w c K w') : c < w'.heap.size := by obtain ⟨b, h1⟩ := h.1; exact cip_lt h1
theorem Kc.more (h : Kc w c K w') (hb : Below w'.heap.size w' w2) : Kc w c K w2 := h.below hb h.lt
theorem Kc.blk {g : Nat} {t : TypeId} {cs : Array Value} (h : Kc w c K w') (hb : Blk w g t cs) (hg : g ≠ c) : Blk w' g t cs := Blk.only hb h.2 hg
theorem Kc.trans (h : Kc w c K w') (h' : Kc w' c K w2) : Kc w c K w2 := ⟨h'.1, only_trans h.2 h'.2⟩
theorem Kc.sealing (h : Kc w c K w') {f : Nat → Nat} (hK : Bt K) (hf : Bt f) :
    Calls Try.prog 18 #[.pointer (some ⟨c, 0, none⟩), .agg (ar 16 f)] w' fun e w2 => e = .returned (.agg (ar 16 (AesM.sealM K f))) ∧ Kc w c K w2 := by
  obtain ⟨b, hc⟩ := h.1
  exact (seal_any K f b hK hf c w' hc).mono fun e _ ⟨he, hb⟩ => ⟨he, h.more hb⟩
theorem Kc.opening (h : Kc w c K w') {f : Nat → Nat} (hK : Bt K) (hf : Bt f) :
    Calls Try.prog 25 #[.pointer (some ⟨c, 0, none⟩), .agg (ar 16 f)] w' fun e w2 => e = .returned (.agg (ar 16 (AesM.open' K f))) ∧ Kc w c K w2 := by
  obtain ⟨b, hc⟩ := h.1
  exact (open_any K f b hK hf c w' hc).mono fun e _ ⟨he, h1, h2⟩ => ⟨he, ⟨_, h1⟩, only_trans h.2 h2⟩
end
theorem grown_row {w w' : World} {c g : Nat} (h : w.grownBy w' (some c)) (hg : w.heap.size ≤ g) (cs : Array Value) : w.grownBy (w'.setRow g cs) (some c) :=
  only_below h (below_setRow (Below.refl w.heap.size w') hg cs) (Nat.le_refl _)
theorem cut_part {s : Nat → Nat} {k q : Nat} (hq : q = 16 * k) : ar 16 (putA 0 16 (fun _ => 0) fun i => s (q + i)) = ar 16 (XtM.part s k) := ar_ext fun j hj => by
  unfold putA XtM.part
  rw [if_pos (by omega), hq, Nat.sub_zero]
set_option maxHeartbeats 800000 in
set_option maxRecDepth 100000 in
theorem each_sealing (K t s : Nat → Nat) (hK : Bt K) (ht : Bt t) (hs : Bt s) (c : Nat) (b : Bool) (w : World) (hc : Cip w c K b) :
    Calls Try.prog 20 #[.agg (ar 64 s), .agg (ar 16 t), .func (.func 18) #[.pointer (some ⟨c, 0, none⟩)] #[]] w fun e w' => e = .returned (.agg (ar 64 (XtM.sect (AesM.sealM K) t s))) ∧ Kc w c K w' := by
  have HK := hid hK
  have HT := hid ht
  have HS := hid hs
  have hE := hid (show ∀ f, Bt f → Bt (AesM.sealM K f) from fun f _ => AesM.seal_bt hK)
  have hcl := cip_lt hc
  have HC := hid (show Kc w c K w from ⟨⟨b, hc⟩, only_refl _ _⟩)
  clear hK ht hs hc
  go_enter Try.func20, Try.ntmps20
  go_upto_region 2 with (first | (with_reducible apply alA tSec) | (with_reducible apply alA tBk))
  generalize hw1 : World.alloc (World.alloc (World.alloc (World.alloc w _) _) _) _ = w1
  have b0 := hid (show Blk w1 w.heap.size 28 (ar 64 s) by rw [← hw1]; exact (((Blk.new _ _ _).alloc _).alloc _).alloc _)
  have b1 := hid (show Blk w1 (w.heap.size + 1) 35 (ar 16 t) by rw [← hw1]; exact ((Blk.top rfl (by simp)).alloc _).alloc _)
  have b2 := hid (show Blk w1 (w.heap.size + 2) 28 (ar 64 fun _ => 0) by rw [← hw1]; exact (Blk.top rfl (by simp)).alloc _)
  have b3 := hid (show Blk w1 (w.heap.size + 3) 28 (ar 64 fun _ => 0) by rw [← hw1]; exact Blk.top rfl (by simp))
  have hb : Below w.heap.size w w1 := by rw [← hw1]; exact ((((Below.refl _ _).alloc (Nat.le_refl _) _).alloc (by simp) _).alloc (by simp; omega) _).alloc (by simp; omega) _
  have bc := hid (HC.out.more hb)
  clear hw1 hb HC
  go_wp2_with fail
  go_loopw [8] (fun i wr => ∃ k q : Nat, k ≤ 4 ∧ q = 16 * k ∧ i = .int .i64 q ∧ Hid (Blk wr w.heap.size 28 (ar 64 s)) ∧ Hid (Blk wr (w.heap.size + 1) 35 (ar 16 (XtM.tk t k))) ∧ Hid (Blk wr (w.heap.size + 2) 28 (ar 64 fun _ => 0)) ∧ Hid (Blk wr (w.heap.size + 3) 28 (ar 64 (upTo (16 * k) (fun _ => 0) (XtM.sect (AesM.sealM K) t s)))) ∧ Hid (Kc w c K wr)) (fun i _ => 64 - (intOf i).toNat)
  case atStart => exact ⟨0, 0, by omega, rfl, rfl, b0, b1, b2, by rw [Nat.mul_zero, upTo_zero]; exact b3, bc⟩
  case round =>
    clear b0 b1 b2 b3 bc
    obtain ⟨k, q, hk, hq, rfl, b0, b1, b2, b3, bc⟩ := hrel
    have HQ := hid hq
    clear hq
    by_cases hlt : k < 4
    · have tq : (q : Int) < 64 := by have := HQ.out; omega
      have hq48 : q ≤ 48 := by have := HQ.out; omega
      have hz : Blk (wr.alloc (.cells (ar 16 fun _ => 0) 35)) wr.heap.size 35 (ar 16 fun _ => 0) := Blk.new _ _ _
      obtain ⟨g9, hg9⟩ : ∃ g9, g9 = wr.heap.size := ⟨_, rfl⟩
      have hw3 : w.heap.size + 3 < g9 := by rw [hg9]; exact b3.out.lt
      go_upto_region 6 with (with_reducible apply alA tBk)
      rw [← hg9] at hz ⊢
      generalize hw4 : World.alloc _ _ = w4 at hz ⊢
      have c0 := hid (show Blk w4 w.heap.size 28 (ar 64 s) by rw [← hw4]; exact b0.out.alloc _)
      have c1 := hid (show Blk w4 (w.heap.size + 1) 35 (ar 16 (XtM.tk t k)) by rw [← hw4]; exact b1.out.alloc _)
      have c2 := hid (show Blk w4 (w.heap.size + 2) 28 (ar 64 fun _ => 0) by rw [← hw4]; exact b2.out.alloc _)
      have c3 := hid (show Blk w4 (w.heap.size + 3) 28 (ar 64 (upTo (16 * k) (fun _ => 0) (XtM.sect (AesM.sealM K) t s))) by rw [← hw4]; exact b3.out.alloc _)
      have c9 := hid hz
      have cc := hid (show Kc w c K w4 by rw [← hw4]; exact bc.out.more ((Below.refl _ _).alloc (Nat.le_refl _) _))
      clear hw4 hz b0 b1 b2 b3 bc hg9
      refine wp_region_tail (C := Drew w4) 3 (by kernel_rfl) (by kernel_rfl) (by kernel_rfl) (Drew.refl _) ?_
      simp only [List.take_succ_cons, List.take_zero, List.drop_succ_cons, List.drop_zero]
      apply wpK_val
      · rfl
      · intro w' hw'
        go_simp
        first | exact rfl | exact ⟨rfl, hw'⟩
      simp only [Act.put, List.setIfInBounds_toArray, List.set_cons_succ, List.set_cons_zero]
      apply wpK_val
      · rfl
      · intro w' hw'
        go_simp
        first | exact rfl | exact ⟨rfl, hw'⟩
      simp only [Act.put, List.setIfInBounds_toArray, List.set_cons_succ, List.set_cons_zero]
      apply wpK_val
      · rfl
      · intro w' hw'
        have h1 : _ := sl_sec (g := w.heap.size) (q := q) (by omega) w'
        go_simp
        first | exact rfl | exact ⟨rfl, hw'⟩
      simp only [Act.put, List.setIfInBounds_toArray, List.set_cons_succ, List.set_cons_zero]
      refine wpK_nil fun w5 hw5 => ?_
      have d0 := hw5.blk c0.out
      have d1 := hid (hw5.blk c1.out)
      have d2 := hid (hw5.blk c2.out)
      have d3 := hid (hw5.blk c3.out)
      have d9 := hw5.blk c9.out
      have dc := hid (show Kc w c K w5 from ⟨by obtain ⟨b, h1⟩ := cc.out.1; exact ⟨b, hw5.blk h1⟩, only_drew cc.out.2 hw5⟩)
      have hr := d0.arRange (o := q) (m := 16) (by omega)
      have hmin := hid (show 16 = Nat.min (64 - q) 16 from (Nat.min_eq_right (by omega)).symm)
      have D0 := hid d0
      clear c0 c1 c2 c3 c9 cc hw5 d0
      go_upto_region 7 with ((with_reducible apply wcopyA); rfl; rfl; exact d9; exact hr; exact hmin.out; omega)
      rw [cut_part HQ.out]
      generalize hw6 : World.setRow _ _ _ = w6
      have c0 := hid (show Blk w6 w.heap.size 28 (ar 64 s) by rw [← hw6]; exact D0.out.setRow_other (by omega) _)
      have c1 := hid (show Blk w6 (w.heap.size + 1) 35 (ar 16 (XtM.tk t k)) by rw [← hw6]; exact d1.out.setRow_other (by omega) _)
      have c2 := hid (show Blk w6 (w.heap.size + 2) 28 (ar 64 fun _ => 0) by rw [← hw6]; exact d2.out.setRow_other (by omega) _)
      have c3 := hid (show Blk w6 (w.heap.size + 3) 28 (ar 64 (upTo (16 * k) (fun _ => 0) (XtM.sect (AesM.sealM K) t s))) by rw [← hw6]; exact d3.out.setRow_other (by omega) _)
      have c9 := hid (show Blk w6 g9 35 (ar 16 (XtM.part s k)) by rw [← hw6]; exact d9.setRow_same _)
      have cc := hid (show Kc w c K w6 by rw [← hw6]; exact ⟨by obtain ⟨b, h1⟩ := dc.out.1; exact ⟨b, Blk.setRow_other h1 (by omega) _⟩, grown_row dc.out.2 (by omega) _⟩)
      clear hw6 D0 d1 d2 d3 d9 dc hr hmin
      refine wp_region_tail (C := Kc w6 c K) 7 (by kernel_rfl) (by kernel_rfl) (by kernel_rfl) ⟨cc.out.1, only_drew (only_refl _ _) (Drew.refl _)⟩ ?_
      simp only [List.take_succ_cons, List.take_zero, List.drop_succ_cons, List.drop_zero]
      apply wpK_val
      · rfl
      · intro w' hw'
        go_simp
        first | exact rfl | exact ⟨rfl, hw'⟩
      simp only [Act.put, List.setIfInBounds_toArray, List.set_cons_succ, List.set_cons_zero]
      apply kldA tBk
      · rfl
      · rfl
      · exact fun w' hw' => (hw'.blk c9.out (by omega)).head
      simp only [Act.put, List.setIfInBounds_toArray, List.set_cons_succ, List.set_cons_zero]
      apply kldA tBk
      · rfl
      · rfl
      · exact fun w' hw' => (hw'.blk c1.out (by omega)).head
      simp only [Act.put, List.setIfInBounds_toArray, List.set_cons_succ, List.set_cons_zero]
      apply wpK_val
      · rfl
      · intro w' hw'
        go_simp
        exact (add_any (XtM.part s k) (XtM.tk t k) (XtM.part_bt HS.out k) (XtM.tk_bt HT.out k) w').mono fun e w2 h => ⟨h.1, hw'.more h.2⟩
      simp only [Act.put, List.setIfInBounds_toArray, List.set_cons_succ, List.set_cons_zero]
      apply wpK_val
      · rfl
      · intro w' hw'
        go_simp
        exact hw'.sealing HK.out (XtM.add_bt (XtM.part_bt HS.out k) (XtM.tk_bt HT.out k))
      simp only [Act.put, List.setIfInBounds_toArray, List.set_cons_succ, List.set_cons_zero]
      apply kldA tBk
      · rfl
      · rfl
      · exact fun w' hw' => (hw'.blk c1.out (by omega)).head
      simp only [Act.put, List.setIfInBounds_toArray, List.set_cons_succ, List.set_cons_zero]
      apply wpK_val
      · rfl
      · intro w' hw'
        go_simp
        exact (add_any (AesM.sealM K (AesM.add (XtM.part s k) (XtM.tk t k))) (XtM.tk t k) (AesM.seal_bt HK.out) (XtM.tk_bt HT.out k) w').mono fun e w2 h => ⟨h.1, hw'.more h.2⟩
      simp only [Act.put, List.setIfInBounds_toArray, List.set_cons_succ, List.set_cons_zero]
      refine wpK_nil fun w7 hw7 => ?_
      have d0 := hid (hw7.blk c0.out (by omega))
      have d1 := hid (hw7.blk c1.out (by omega))
      have d2 := hid (hw7.blk c2.out (by omega))
      have d3 := hid (hw7.blk c3.out (by omega))
      have d9 := hw7.blk c9.out (by omega)
      have dc := hid (cc.out.trans hw7)
      clear c0 c1 c2 c3 c9 cc hw7
      go_upto_region 8 with ((with_reducible apply stA tBk); rfl; rfl; exact d9)
      rw [show AesM.add (AesM.sealM K (AesM.add (XtM.part s k) (XtM.tk t k))) (XtM.tk t k) = XtM.blk (AesM.sealM K) (XtM.tk t k) (XtM.part s k) from rfl]
      generalize hw8 : World.setRow _ _ _ = w8
      have c0 := hid (show Blk w8 w.heap.size 28 (ar 64 s) by rw [← hw8]; exact d0.out.setRow_other (by omega) _)
      have c1 := hid (show Blk w8 (w.heap.size + 1) 35 (ar 16 (XtM.tk t k)) by rw [← hw8]; exact d1.out.setRow_other (by omega) _)
      have c2 := hid (show Blk w8 (w.heap.size + 2) 28 (ar 64 fun _ => 0) by rw [← hw8]; exact d2.out.setRow_other (by omega) _)
      have c3 := hid (show Blk w8 (w.heap.size + 3) 28 (ar 64 (upTo (16 * k) (fun _ => 0) (XtM.sect (AesM.sealM K) t s))) by rw [← hw8]; exact d3.out.setRow_other (by omega) _)
      have c9 := hid (show Blk w8 g9 35 (ar 16 (XtM.blk (AesM.sealM K) (XtM.tk t k) (XtM.part s k))) by rw [← hw8]; exact d9.setRow_same _)
      have cc := hid (show Kc w c K w8 by rw [← hw8]; exact ⟨by obtain ⟨b, h1⟩ := dc.out.1; exact ⟨b, Blk.setRow_other h1 (by omega) _⟩, grown_row dc.out.2 (by omega) _⟩)
      clear hw8 d0 d1 d2 d3 d9 dc
      refine wp_region_tail (C := Drew w8) 3 (by kernel_rfl) (by kernel_rfl) (by kernel_rfl) (Drew.refl _) ?_
      simp only [List.take_succ_cons, List.take_zero, List.drop_succ_cons, List.drop_zero]
      apply wpK_val
      · rfl
      · intro w' hw'
        go_simp
        first | exact rfl | exact ⟨rfl, hw'⟩
      simp only [Act.put, List.setIfInBounds_toArray, List.set_cons_succ, List.set_cons_zero]
      apply wpK_val
      · rfl
      · intro w' hw'
        have h1 : _ := sl_sec (g := w.heap.size + 3) (q := q) (by omega) w'
        go_simp
        first | exact rfl | exact ⟨rfl, hw'⟩
      simp only [Act.put, List.setIfInBounds_toArray, List.set_cons_succ, List.set_cons_zero]
      apply wpK_val
      · rfl
      · intro w' hw'
        go_simp
        first | exact rfl | exact ⟨rfl, hw'⟩
      simp only [Act.put, List.setIfInBounds_toArray, List.set_cons_succ, List.set_cons_zero]
      refine wpK_nil fun w9 hw9 => ?_
      have d0 := hid (hw9.blk c0.out)
      have d1 := hid (hw9.blk c1.out)
      have d2 := hid (hw9.blk c2.out)
      have d3 := hw9.blk c3.out
      have d9 := hw9.blk c9.out
      have dc := hid (show Kc w c K w9 from ⟨by obtain ⟨b, h1⟩ := cc.out.1; exact ⟨b, hw9.blk h1⟩, only_drew cc.out.2 hw9⟩)
      have hr := d9.head
      have hmin := hid (show 16 = Nat.min 16 (64 - q) from (Nat.min_eq_left (by omega)).symm)
      have hfit := hid (show q + 16 ≤ 64 by omega)
      clear c0 c1 c2 c3 c9 cc hw9 d9
      go_upto_region 9 with ((with_reducible apply wcopyA); rfl; rfl; exact d3; exact hr; exact hmin.out; exact hfit.out)
      rw [putA_next HQ.out (h' := XtM.blk (AesM.sealM K) (XtM.tk t k) (XtM.part s k)) fun i hi => by unfold XtM.sect; rw [show (16 * k + i) / 16 = k by omega, show (16 * k + i) % 16 = i by omega]]
      generalize hw10 : World.setRow _ _ _ = w10
      have c0 := hid (show Blk w10 w.heap.size 28 (ar 64 s) by rw [← hw10]; exact d0.out.setRow_other (by omega) _)
      have c1 := show Blk w10 (w.heap.size + 1) 35 (ar 16 (XtM.tk t k)) by rw [← hw10]; exact d1.out.setRow_other (by omega) _
      have c2 := hid (show Blk w10 (w.heap.size + 2) 28 (ar 64 fun _ => 0) by rw [← hw10]; exact d2.out.setRow_other (by omega) _)
      have c3 := hid (show Blk w10 (w.heap.size + 3) 28 (ar 64 (upTo (16 * (k + 1)) (fun _ => 0) (XtM.sect (AesM.sealM K) t s))) by rw [← hw10]; exact d3.setRow_same _)
      have cc := hid (show Kc w c K w10 by rw [← hw10]; exact ⟨by obtain ⟨b, h1⟩ := dc.out.1; exact ⟨b, Blk.setRow_other h1 (by omega) _⟩, grown_row dc.out.2 (by omega) _⟩)
      clear hw10 d0 d1 d2 d3 dc hr hmin hfit
      go_wp2_with ((with_reducible apply ldA tBk); rfl; exact c1)
      refine (double_any (XtM.tk t k) (XtM.tk_bt HT.out k) _).mono ?_
      rintro e w11 ⟨rfl, h11⟩
      have d0 := hid (c0.out.below h11 c0.out.lt)
      have d1 := c1.below h11 c1.lt
      have d2 := hid (c2.out.below h11 c2.out.lt)
      have d3 := hid (c3.out.below h11 c3.out.lt)
      have dc := hid (cc.out.more h11)
      clear c0 c1 c2 c3 cc h11
      go_wp2_with ((with_reducible apply stA tBk); rfl; rfl; exact d1)
      go_roundw
      case rel =>
        refine ⟨k + 1, q + 16, by omega, by have := HQ.out; omega, by go_num, hid (d0.out.setRow_other (by omega) _), hid (d1.setRow_same _), hid (d2.out.setRow_other (by omega) _), hid (d3.out.setRow_other (by omega) _), hid ⟨?_, grown_row dc.out.2 (by omega) _⟩⟩
        obtain ⟨b, h1⟩ := dc.out.1
        exact ⟨b, Blk.setRow_other h1 (by omega) _⟩
      case measure => simp [intOf]; omega
    · have tq : decide ((q : Int) < 64) = false := by have := HQ.out; simp; omega
      have c3 := b3.out
      have c2 := b2.out
      rw [upTo_all (by omega)] at c3
      go_wp2_with (first | ((with_reducible apply ldA tSec); rfl; exact c3) | ((with_reducible apply stA tSec); rfl; rfl; exact c2))
      apply ret_ar tSec Try.results20
      · rfl
      · rfl
      · exact c2.setRow_same _
      refine ⟨rfl, ?_, grown_row bc.out.2 (by omega) _⟩
      obtain ⟨b, h1⟩ := bc.out.1
      exact ⟨b, Blk.setRow_other h1 (by omega) _⟩
set_option maxHeartbeats 800000 in
set_option maxRecDepth 100000 in
theorem each_opening (K t s : Nat → Nat) (hK : Bt K) (ht : Bt t) (hs : Bt s) (c : Nat) (b : Bool) (w : World) (hc : Cip w c K b) :
    Calls Try.prog 20 #[.agg (ar 64 s), .agg (ar 16 t), .func (.func 25) #[.pointer (some ⟨c, 0, none⟩)] #[]] w fun e w' => e = .returned (.agg (ar 64 (XtM.sect (AesM.open' K) t s))) ∧ Kc w c K w' := by
  have HK := hid hK
  have HT := hid ht
  have HS := hid hs
  have hE := hid (show ∀ f, Bt f → Bt (AesM.open' K f) from fun f _ => AesM.open_bt hK)
  have hcl := cip_lt hc
  have HC := hid (show Kc w c K w from ⟨⟨b, hc⟩, only_refl _ _⟩)
  clear hK ht hs hc
  go_enter Try.func20, Try.ntmps20
  go_upto_region 2 with (first | (with_reducible apply alA tSec) | (with_reducible apply alA tBk))
  generalize hw1 : World.alloc (World.alloc (World.alloc (World.alloc w _) _) _) _ = w1
  have b0 := hid (show Blk w1 w.heap.size 28 (ar 64 s) by rw [← hw1]; exact (((Blk.new _ _ _).alloc _).alloc _).alloc _)
  have b1 := hid (show Blk w1 (w.heap.size + 1) 35 (ar 16 t) by rw [← hw1]; exact ((Blk.top rfl (by simp)).alloc _).alloc _)
  have b2 := hid (show Blk w1 (w.heap.size + 2) 28 (ar 64 fun _ => 0) by rw [← hw1]; exact (Blk.top rfl (by simp)).alloc _)
  have b3 := hid (show Blk w1 (w.heap.size + 3) 28 (ar 64 fun _ => 0) by rw [← hw1]; exact Blk.top rfl (by simp))
  have hb : Below w.heap.size w w1 := by rw [← hw1]; exact ((((Below.refl _ _).alloc (Nat.le_refl _) _).alloc (by simp) _).alloc (by simp; omega) _).alloc (by simp; omega) _
  have bc := hid (HC.out.more hb)
  clear hw1 hb HC
  go_wp2_with fail
  go_loopw [8] (fun i wr => ∃ k q : Nat, k ≤ 4 ∧ q = 16 * k ∧ i = .int .i64 q ∧ Hid (Blk wr w.heap.size 28 (ar 64 s)) ∧ Hid (Blk wr (w.heap.size + 1) 35 (ar 16 (XtM.tk t k))) ∧ Hid (Blk wr (w.heap.size + 2) 28 (ar 64 fun _ => 0)) ∧ Hid (Blk wr (w.heap.size + 3) 28 (ar 64 (upTo (16 * k) (fun _ => 0) (XtM.sect (AesM.open' K) t s)))) ∧ Hid (Kc w c K wr)) (fun i _ => 64 - (intOf i).toNat)
  case atStart => exact ⟨0, 0, by omega, rfl, rfl, b0, b1, b2, by rw [Nat.mul_zero, upTo_zero]; exact b3, bc⟩
  case round =>
    clear b0 b1 b2 b3 bc
    obtain ⟨k, q, hk, hq, rfl, b0, b1, b2, b3, bc⟩ := hrel
    have HQ := hid hq
    clear hq
    by_cases hlt : k < 4
    · have tq : (q : Int) < 64 := by have := HQ.out; omega
      have hq48 : q ≤ 48 := by have := HQ.out; omega
      have hz : Blk (wr.alloc (.cells (ar 16 fun _ => 0) 35)) wr.heap.size 35 (ar 16 fun _ => 0) := Blk.new _ _ _
      obtain ⟨g9, hg9⟩ : ∃ g9, g9 = wr.heap.size := ⟨_, rfl⟩
      have hw3 : w.heap.size + 3 < g9 := by rw [hg9]; exact b3.out.lt
      go_upto_region 6 with (with_reducible apply alA tBk)
      rw [← hg9] at hz ⊢
      generalize hw4 : World.alloc _ _ = w4 at hz ⊢
      have c0 := hid (show Blk w4 w.heap.size 28 (ar 64 s) by rw [← hw4]; exact b0.out.alloc _)
      have c1 := hid (show Blk w4 (w.heap.size + 1) 35 (ar 16 (XtM.tk t k)) by rw [← hw4]; exact b1.out.alloc _)
      have c2 := hid (show Blk w4 (w.heap.size + 2) 28 (ar 64 fun _ => 0) by rw [← hw4]; exact b2.out.alloc _)
      have c3 := hid (show Blk w4 (w.heap.size + 3) 28 (ar 64 (upTo (16 * k) (fun _ => 0) (XtM.sect (AesM.open' K) t s))) by rw [← hw4]; exact b3.out.alloc _)
      have c9 := hid hz
      have cc := hid (show Kc w c K w4 by rw [← hw4]; exact bc.out.more ((Below.refl _ _).alloc (Nat.le_refl _) _))
      clear hw4 hz b0 b1 b2 b3 bc hg9
      refine wp_region_tail (C := Drew w4) 3 (by kernel_rfl) (by kernel_rfl) (by kernel_rfl) (Drew.refl _) ?_
      simp only [List.take_succ_cons, List.take_zero, List.drop_succ_cons, List.drop_zero]
      apply wpK_val
      · rfl
      · intro w' hw'
        go_simp
        first | exact rfl | exact ⟨rfl, hw'⟩
      simp only [Act.put, List.setIfInBounds_toArray, List.set_cons_succ, List.set_cons_zero]
      apply wpK_val
      · rfl
      · intro w' hw'
        go_simp
        first | exact rfl | exact ⟨rfl, hw'⟩
      simp only [Act.put, List.setIfInBounds_toArray, List.set_cons_succ, List.set_cons_zero]
      apply wpK_val
      · rfl
      · intro w' hw'
        have h1 : _ := sl_sec (g := w.heap.size) (q := q) (by omega) w'
        go_simp
        first | exact rfl | exact ⟨rfl, hw'⟩
      simp only [Act.put, List.setIfInBounds_toArray, List.set_cons_succ, List.set_cons_zero]
      refine wpK_nil fun w5 hw5 => ?_
      have d0 := hw5.blk c0.out
      have d1 := hid (hw5.blk c1.out)
      have d2 := hid (hw5.blk c2.out)
      have d3 := hid (hw5.blk c3.out)
      have d9 := hw5.blk c9.out
      have dc := hid (show Kc w c K w5 from ⟨by obtain ⟨b, h1⟩ := cc.out.1; exact ⟨b, hw5.blk h1⟩, only_drew cc.out.2 hw5⟩)
      have hr := d0.arRange (o := q) (m := 16) (by omega)
      have hmin := hid (show 16 = Nat.min (64 - q) 16 from (Nat.min_eq_right (by omega)).symm)
      have D0 := hid d0
      clear c0 c1 c2 c3 c9 cc hw5 d0
      go_upto_region 7 with ((with_reducible apply wcopyA); rfl; rfl; exact d9; exact hr; exact hmin.out; omega)
      rw [cut_part HQ.out]
      generalize hw6 : World.setRow _ _ _ = w6
      have c0 := hid (show Blk w6 w.heap.size 28 (ar 64 s) by rw [← hw6]; exact D0.out.setRow_other (by omega) _)
      have c1 := hid (show Blk w6 (w.heap.size + 1) 35 (ar 16 (XtM.tk t k)) by rw [← hw6]; exact d1.out.setRow_other (by omega) _)
      have c2 := hid (show Blk w6 (w.heap.size + 2) 28 (ar 64 fun _ => 0) by rw [← hw6]; exact d2.out.setRow_other (by omega) _)
      have c3 := hid (show Blk w6 (w.heap.size + 3) 28 (ar 64 (upTo (16 * k) (fun _ => 0) (XtM.sect (AesM.open' K) t s))) by rw [← hw6]; exact d3.out.setRow_other (by omega) _)
      have c9 := hid (show Blk w6 g9 35 (ar 16 (XtM.part s k)) by rw [← hw6]; exact d9.setRow_same _)
      have cc := hid (show Kc w c K w6 by rw [← hw6]; exact ⟨by obtain ⟨b, h1⟩ := dc.out.1; exact ⟨b, Blk.setRow_other h1 (by omega) _⟩, grown_row dc.out.2 (by omega) _⟩)
      clear hw6 D0 d1 d2 d3 d9 dc hr hmin
      refine wp_region_tail (C := Kc w6 c K) 7 (by kernel_rfl) (by kernel_rfl) (by kernel_rfl) ⟨cc.out.1, only_drew (only_refl _ _) (Drew.refl _)⟩ ?_
      simp only [List.take_succ_cons, List.take_zero, List.drop_succ_cons, List.drop_zero]
      apply wpK_val
      · rfl
      · intro w' hw'
        go_simp
        first | exact rfl | exact ⟨rfl, hw'⟩
      simp only [Act.put, List.setIfInBounds_toArray, List.set_cons_succ, List.set_cons_zero]
      apply kldA tBk
      · rfl
      · rfl
      · exact fun w' hw' => (hw'.blk c9.out (by omega)).head
      simp only [Act.put, List.setIfInBounds_toArray, List.set_cons_succ, List.set_cons_zero]
      apply kldA tBk
      · rfl
      · rfl
      · exact fun w' hw' => (hw'.blk c1.out (by omega)).head
      simp only [Act.put, List.setIfInBounds_toArray, List.set_cons_succ, List.set_cons_zero]
      apply wpK_val
      · rfl
      · intro w' hw'
        go_simp
        exact (add_any (XtM.part s k) (XtM.tk t k) (XtM.part_bt HS.out k) (XtM.tk_bt HT.out k) w').mono fun e w2 h => ⟨h.1, hw'.more h.2⟩
      simp only [Act.put, List.setIfInBounds_toArray, List.set_cons_succ, List.set_cons_zero]
      apply wpK_val
      · rfl
      · intro w' hw'
        go_simp
        exact hw'.opening HK.out (XtM.add_bt (XtM.part_bt HS.out k) (XtM.tk_bt HT.out k))
      simp only [Act.put, List.setIfInBounds_toArray, List.set_cons_succ, List.set_cons_zero]
      apply kldA tBk
      · rfl
      · rfl
      · exact fun w' hw' => (hw'.blk c1.out (by omega)).head
      simp only [Act.put, List.setIfInBounds_toArray, List.set_cons_succ, List.set_cons_zero]
      apply wpK_val
      · rfl
      · intro w' hw'
        go_simp
        exact (add_any (AesM.open' K (AesM.add (XtM.part s k) (XtM.tk t k))) (XtM.tk t k) (AesM.open_bt HK.out) (XtM.tk_bt HT.out k) w').mono fun e w2 h => ⟨h.1, hw'.more h.2⟩
      simp only [Act.put, List.setIfInBounds_toArray, List.set_cons_succ, List.set_cons_zero]
      refine wpK_nil fun w7 hw7 => ?_
      have d0 := hid (hw7.blk c0.out (by omega))
      have d1 := hid (hw7.blk c1.out (by omega))
      have d2 := hid (hw7.blk c2.out (by omega))
      have d3 := hid (hw7.blk c3.out (by omega))
      have d9 := hw7.blk c9.out (by omega)
      have dc := hid (cc.out.trans hw7)
      clear c0 c1 c2 c3 c9 cc hw7
      go_upto_region 8 with ((with_reducible apply stA tBk); rfl; rfl; exact d9)
      rw [show AesM.add (AesM.open' K (AesM.add (XtM.part s k) (XtM.tk t k))) (XtM.tk t k) = XtM.blk (AesM.open' K) (XtM.tk t k) (XtM.part s k) from rfl]
      generalize hw8 : World.setRow _ _ _ = w8
      have c0 := hid (show Blk w8 w.heap.size 28 (ar 64 s) by rw [← hw8]; exact d0.out.setRow_other (by omega) _)
      have c1 := hid (show Blk w8 (w.heap.size + 1) 35 (ar 16 (XtM.tk t k)) by rw [← hw8]; exact d1.out.setRow_other (by omega) _)
      have c2 := hid (show Blk w8 (w.heap.size + 2) 28 (ar 64 fun _ => 0) by rw [← hw8]; exact d2.out.setRow_other (by omega) _)
      have c3 := hid (show Blk w8 (w.heap.size + 3) 28 (ar 64 (upTo (16 * k) (fun _ => 0) (XtM.sect (AesM.open' K) t s))) by rw [← hw8]; exact d3.out.setRow_other (by omega) _)
      have c9 := hid (show Blk w8 g9 35 (ar 16 (XtM.blk (AesM.open' K) (XtM.tk t k) (XtM.part s k))) by rw [← hw8]; exact d9.setRow_same _)
      have cc := hid (show Kc w c K w8 by rw [← hw8]; exact ⟨by obtain ⟨b, h1⟩ := dc.out.1; exact ⟨b, Blk.setRow_other h1 (by omega) _⟩, grown_row dc.out.2 (by omega) _⟩)
      clear hw8 d0 d1 d2 d3 d9 dc
      refine wp_region_tail (C := Drew w8) 3 (by kernel_rfl) (by kernel_rfl) (by kernel_rfl) (Drew.refl _) ?_
      simp only [List.take_succ_cons, List.take_zero, List.drop_succ_cons, List.drop_zero]
      apply wpK_val
      · rfl
      · intro w' hw'
        go_simp
        first | exact rfl | exact ⟨rfl, hw'⟩
      simp only [Act.put, List.setIfInBounds_toArray, List.set_cons_succ, List.set_cons_zero]
      apply wpK_val
      · rfl
      · intro w' hw'
        have h1 : _ := sl_sec (g := w.heap.size + 3) (q := q) (by omega) w'
        go_simp
        first | exact rfl | exact ⟨rfl, hw'⟩
      simp only [Act.put, List.setIfInBounds_toArray, List.set_cons_succ, List.set_cons_zero]
      apply wpK_val
      · rfl
      · intro w' hw'
        go_simp
        first | exact rfl | exact ⟨rfl, hw'⟩
      simp only [Act.put, List.setIfInBounds_toArray, List.set_cons_succ, List.set_cons_zero]
      refine wpK_nil fun w9 hw9 => ?_
      have d0 := hid (hw9.blk c0.out)
      have d1 := hid (hw9.blk c1.out)
      have d2 := hid (hw9.blk c2.out)
      have d3 := hw9.blk c3.out
      have d9 := hw9.blk c9.out
      have dc := hid (show Kc w c K w9 from ⟨by obtain ⟨b, h1⟩ := cc.out.1; exact ⟨b, hw9.blk h1⟩, only_drew cc.out.2 hw9⟩)
      have hr := d9.head
      have hmin := hid (show 16 = Nat.min 16 (64 - q) from (Nat.min_eq_left (by omega)).symm)
      have hfit := hid (show q + 16 ≤ 64 by omega)
      clear c0 c1 c2 c3 c9 cc hw9 d9
      go_upto_region 9 with ((with_reducible apply wcopyA); rfl; rfl; exact d3; exact hr; exact hmin.out; exact hfit.out)
      rw [putA_next HQ.out (h' := XtM.blk (AesM.open' K) (XtM.tk t k) (XtM.part s k)) fun i hi => by unfold XtM.sect; rw [show (16 * k + i) / 16 = k by omega, show (16 * k + i) % 16 = i by omega]]
      generalize hw10 : World.setRow _ _ _ = w10
      have c0 := hid (show Blk w10 w.heap.size 28 (ar 64 s) by rw [← hw10]; exact d0.out.setRow_other (by omega) _)
      have c1 := show Blk w10 (w.heap.size + 1) 35 (ar 16 (XtM.tk t k)) by rw [← hw10]; exact d1.out.setRow_other (by omega) _
      have c2 := hid (show Blk w10 (w.heap.size + 2) 28 (ar 64 fun _ => 0) by rw [← hw10]; exact d2.out.setRow_other (by omega) _)
      have c3 := hid (show Blk w10 (w.heap.size + 3) 28 (ar 64 (upTo (16 * (k + 1)) (fun _ => 0) (XtM.sect (AesM.open' K) t s))) by rw [← hw10]; exact d3.setRow_same _)
      have cc := hid (show Kc w c K w10 by rw [← hw10]; exact ⟨by obtain ⟨b, h1⟩ := dc.out.1; exact ⟨b, Blk.setRow_other h1 (by omega) _⟩, grown_row dc.out.2 (by omega) _⟩)
      clear hw10 d0 d1 d2 d3 dc hr hmin hfit
      go_wp2_with ((with_reducible apply ldA tBk); rfl; exact c1)
      refine (double_any (XtM.tk t k) (XtM.tk_bt HT.out k) _).mono ?_
      rintro e w11 ⟨rfl, h11⟩
      have d0 := hid (c0.out.below h11 c0.out.lt)
      have d1 := c1.below h11 c1.lt
      have d2 := hid (c2.out.below h11 c2.out.lt)
      have d3 := hid (c3.out.below h11 c3.out.lt)
      have dc := hid (cc.out.more h11)
      clear c0 c1 c2 c3 cc h11
      go_wp2_with ((with_reducible apply stA tBk); rfl; rfl; exact d1)
      go_roundw
      case rel =>
        refine ⟨k + 1, q + 16, by omega, by have := HQ.out; omega, by go_num, hid (d0.out.setRow_other (by omega) _), hid (d1.setRow_same _), hid (d2.out.setRow_other (by omega) _), hid (d3.out.setRow_other (by omega) _), hid ⟨?_, grown_row dc.out.2 (by omega) _⟩⟩
        obtain ⟨b, h1⟩ := dc.out.1
        exact ⟨b, Blk.setRow_other h1 (by omega) _⟩
      case measure => simp [intOf]; omega
    · have tq : decide ((q : Int) < 64) = false := by have := HQ.out; simp; omega
      have c3 := b3.out
      have c2 := b2.out
      rw [upTo_all (by omega)] at c3
      go_wp2_with (first | ((with_reducible apply ldA tSec); rfl; exact c3) | ((with_reducible apply stA tSec); rfl; rfl; exact c2))
      apply ret_ar tSec Try.results20
      · rfl
      · rfl
      · exact c2.setRow_same _
      refine ⟨rfl, ?_, grown_row bc.out.2 (by omega) _⟩
      obtain ⟨b, h1⟩ := bc.out.1
      exact ⟨b, Blk.setRow_other h1 (by omega) _⟩
end XtP
end Go.Proofs.Ytfnepbkgmopjcaa
