/-
  Contracts of xts.each: with Seal, and with Open, of a cipher.
  Contract of xts.New.
  Contracts of Seal and Open of a mode.
  A mode among blocks that stand: Seal and Open asked of it.
  What comes in: two keys and a number.
  The sector of the law's own example, reckoned out as far as its first byte.
  Contract of casematelaw08.works.
  The law XtsSeals.
-/
import Derived.Test.YtkcfonlondlmeaaMrgXtsSeals6
import Derived.Deep.Strs
set_option linter.unusedVariables false
namespace Go.Proofs.Ytkcfonlondlmeaa
open Go.ChangeShapes Go.WideShapes Go.ChangeAt Go.RowKit
open AesM (Bt Q16)
open AesP (tBk wr_nat Cip cip_lt seal_any open_any size_u8)
namespace XtP
attribute [local go_sem] Gives
theorem sl_sec {g q : Nat} (hq : q < 64) (w : World) : (Instr.sliceAt 28 (.pointer (some ⟨g, 0, none⟩)) (some (.int .i64 q)) none none).run Try.prog w = .ok (.slice (some ⟨g, q, none⟩) (64 - q) (64 - q)) w := by
  have hl : Try.prog.arrayLen 28 = 64 := by kernel_rfl
  have he : Try.prog.elem 28 = 5 := by kernel_rfl
  rw [run_sliceAt_array_l w 28 _ (by rw [hl, he]; exact Try.underlying28) .i64 q (by omega) (by rw [hl]; omega), he, size_u8, hl]
  simp only [Result.andThen_ok, slicedAt, Int.toNat_natCast]
  rw [if_neg (by omega), Addr.add_mid, Nat.mul_one, Nat.zero_add]
/-- The cipher stands, and nothing else of old is turned. -/
def Kc (w : World) (c : Nat) (K : Nat → Nat) (w' : World) : Prop := (∃ b, Cip w' c K b) ∧ w.grownBy w' (some c)
section
variable {w w' w2 : World} {c : Nat} {K : Nat → Nat}
theorem Kc.below (h : Kc w c K w') (hb : Below w'.heap.size w' w2) (hc : c < w'.heap.size) : Kc w c K w2 :=
  ⟨by obtain ⟨b, h1⟩ := h.1; exact ⟨b, Blk.below h1 hb hc⟩, only_below h.2 hb h.2.size⟩
theorem Kc.lt (h : Kc w c K w') : c < w'.heap.size := by obtain ⟨b, h1⟩ := h.1; exact cip_lt h1
theorem Kc.more (h : Kc w c K w') (hb : Below w'.heap.size w' w2) : Kc w c K w2 := h.below hb h.lt
theorem Kc.blk {g : Nat} {t : TypeId} {cs : Array Value} (h : Kc w c K w') (hb : Blk w g t cs) (hg : g ≠ c) : Blk w' g t cs := Blk.only hb h.2 hg
theorem Kc.trans (h : Kc w c K w') (h' : Kc w' c K w2) : Kc w c K w2 := ⟨h'.1, only_trans h.2 h'.2⟩
theorem Kc.sealing (h : Kc w c K w') {f : Nat → Nat} (hK : Bt K) (hf : Bt f) :
    Calls Try.prog 17 #[.pointer (some ⟨c, 0, none⟩), .agg (ar 16 f)] w' fun e w2 => e = .returned (.agg (ar 16 (AesM.sealM K f))) ∧ Kc w c K w2 := by
  obtain ⟨b, hc⟩ := h.1
  exact (seal_any K f b hK hf c w' hc).mono fun e _ ⟨he, hb⟩ => ⟨he, h.more hb⟩
theorem Kc.opening (h : Kc w c K w') {f : Nat → Nat} (hK : Bt K) (hf : Bt f) :
    Calls Try.prog 21 #[.pointer (some ⟨c, 0, none⟩), .agg (ar 16 f)] w' fun e w2 => e = .returned (.agg (ar 16 (AesM.open' K f))) ∧ Kc w c K w2 := by
  obtain ⟨b, hc⟩ := h.1
  exact (open_any K f b hK hf c w' hc).mono fun e _ ⟨he, h1, h2⟩ => ⟨he, ⟨_, h1⟩, only_trans h.2 h2⟩
end
theorem grown_row {w w' : World} {c g : Nat} (h : w.grownBy w' (some c)) (hg : w.heap.size ≤ g) (cs : Array Value) : w.grownBy (w'.setRow g cs) (some c) :=
  only_below h (below_setRow (Below.refl w.heap.size w') hg cs) (Nat.le_refl _)
theorem cut_part {s : Nat → Nat} {k q : Nat} (hq : q = 16 * k) : ar 16 (putA 0 16 (fun _ => 0) fun i => s (q + i)) = ar 16 (XtM.part s k) := ar_ext fun j hj => by
  unfold putA XtM.part
  rw [if_pos (by omega), hq, Nat.sub_zero]
set_option maxHeartbeats 800000 in
set_option maxRecDepth 100000 in
theorem each_sealing (K t s : Nat → Nat) (hK : Bt K) (ht : Bt t) (hs : Bt s) (c : Nat) (b : Bool) (w : World) (hc : Cip w c K b) :
    Calls Try.prog 15 #[.agg (ar 64 s), .agg (ar 16 t), .func (.func 17) #[.pointer (some ⟨c, 0, none⟩)] #[]] w fun e w' => e = .returned (.agg (ar 64 (XtM.sect (AesM.sealM K) t s))) ∧ Kc w c K w' := by
  have HK := hid hK
  have HT := hid ht
  have HS := hid hs
  have hE := hid (show ∀ f, Bt f → Bt (AesM.sealM K f) from fun f _ => AesM.seal_bt hK)
  have hcl := cip_lt hc
  have HC := hid (show Kc w c K w from ⟨⟨b, hc⟩, only_refl _ _⟩)
  clear hK ht hs hc
  go_enter Try.func15, Try.ntmps15
  go_upto_region 2 with (first | (with_reducible apply alA tSec) | (with_reducible apply alA tBk))
  generalize hw1 : World.alloc (World.alloc (World.alloc (World.alloc w _) _) _) _ = w1
  have b0 := hid (show Blk w1 w.heap.size 28 (ar 64 s) by rw [← hw1]; exact (((Blk.new _ _ _).alloc _).alloc _).alloc _)
  have b1 := hid (show Blk w1 (w.heap.size + 1) 35 (ar 16 t) by rw [← hw1]; exact ((Blk.top rfl (by simp)).alloc _).alloc _)
  have b2 := hid (show Blk w1 (w.heap.size + 2) 28 (ar 64 fun _ => 0) by rw [← hw1]; exact (Blk.top rfl (by simp)).alloc _)
  have b3 := hid (show Blk w1 (w.heap.size + 3) 28 (ar 64 fun _ => 0) by rw [← hw1]; exact Blk.top rfl (by simp))
  have hb : Below w.heap.size w w1 := by rw [← hw1]; exact ((((Below.refl _ _).alloc (Nat.le_refl _) _).alloc (by simp) _).alloc (by simp; omega) _).alloc (by simp; omega) _
  have bc := hid (HC.out.more hb)
  clear hw1 hb HC
  go_wp2_with fail
  go_loopw [8] (fun i wr => ∃ k q : Nat, k ≤ 4 ∧ q = 16 * k ∧ i = .int .i64 q ∧ Hid (Blk wr w.heap.size 28 (ar 64 s)) ∧ Hid (Blk wr (w.heap.size + 1) 35 (ar 16 (XtM.tk t k))) ∧ Hid (Blk wr (w.heap.size + 2) 28 (ar 64 fun _ => 0)) ∧ Hid (Blk wr (w.heap.size + 3) 28 (ar 64 (upTo (16 * k) (fun _ => 0) (XtM.sect (AesM.sealM K) t s)))) ∧ Hid (Kc w c K wr)) (fun i _ => 64 - (intOf i).toNat)
  case atStart => exact ⟨0, 0, by omega, rfl, rfl, b0, b1, b2, by rw [Nat.mul_zero, upTo_zero]; exact b3, bc⟩
  case round =>
    clear b0 b1 b2 b3 bc
    obtain ⟨k, q, hk, hq, rfl, b0, b1, b2, b3, bc⟩ := hrel
    have HQ := hid hq
    clear hq
    by_cases hlt : k < 4
    · have tq : (q : Int) < 64 := by have := HQ.out; omega
      have hq48 : q ≤ 48 := by have := HQ.out; omega
      have hz : Blk (wr.alloc (.cells (ar 16 fun _ => 0) 35)) wr.heap.size 35 (ar 16 fun _ => 0) := Blk.new _ _ _
      obtain ⟨g9, hg9⟩ : ∃ g9, g9 = wr.heap.size := ⟨_, rfl⟩
      have hw3 : w.heap.size + 3 < g9 := by rw [hg9]; exact b3.out.lt
      go_upto_region 6 with (with_reducible apply alA tBk)
      rw [← hg9] at hz ⊢
      generalize hw4 : World.alloc _ _ = w4 at hz ⊢
      have c0 := hid (show Blk w4 w.heap.size 28 (ar 64 s) by rw [← hw4]; exact b0.out.alloc _)
      have c1 := hid (show Blk w4 (w.heap.size + 1) 35 (ar 16 (XtM.tk t k)) by rw [← hw4]; exact b1.out.alloc _)
      have c2 := hid (show Blk w4 (w.heap.size + 2) 28 (ar 64 fun _ => 0) by rw [← hw4]; exact b2.out.alloc _)
      have c3 := hid (show Blk w4 (w.heap.size + 3) 28 (ar 64 (upTo (16 * k) (fun _ => 0) (XtM.sect (AesM.sealM K) t s))) by rw [← hw4]; exact b3.out.alloc _)
      have c9 := hid hz
      have cc := hid (show Kc w c K w4 by rw [← hw4]; exact bc.out.more ((Below.refl _ _).alloc (Nat.le_refl _) _))
      clear hw4 hz b0 b1 b2 b3 bc hg9
      refine wp_region_tail (C := Drew w4) 3 (by kernel_rfl) (by kernel_rfl) (by kernel_rfl) (Drew.refl _) ?_
      simp only [List.take_succ_cons, List.take_zero, List.drop_succ_cons, List.drop_zero]
      apply wpK_val
      · rfl
      · intro w' hw'
        go_simp
        first | exact rfl | exact ⟨rfl, hw'⟩
      simp only [Act.put, List.setIfInBounds_toArray, List.set_cons_succ, List.set_cons_zero]
      apply wpK_val
      · rfl
      · intro w' hw'
        go_simp
        first | exact rfl | exact ⟨rfl, hw'⟩
      simp only [Act.put, List.setIfInBounds_toArray, List.set_cons_succ, List.set_cons_zero]
      apply wpK_val
      · rfl
      · intro w' hw'
        have h1 : _ := sl_sec (g := w.heap.size) (q := q) (by omega) w'
        go_simp
        first | exact rfl | exact ⟨rfl, hw'⟩
      simp only [Act.put, List.setIfInBounds_toArray, List.set_cons_succ, List.set_cons_zero]
      refine wpK_nil fun w5 hw5 => ?_
      have d0 := hw5.blk c0.out
      have d1 := hid (hw5.blk c1.out)
      have d2 := hid (hw5.blk c2.out)
      have d3 := hid (hw5.blk c3.out)
      have d9 := hw5.blk c9.out
      have dc := hid (show Kc w c K w5 from ⟨by obtain ⟨b, h1⟩ := cc.out.1; exact ⟨b, hw5.blk h1⟩, only_drew cc.out.2 hw5⟩)
      have hr := d0.arRange (o := q) (m := 16) (by omega)
      have hmin := hid (show 16 = Nat.min (64 - q) 16 from (Nat.min_eq_right (by omega)).symm)
      have D0 := hid d0
      clear c0 c1 c2 c3 c9 cc hw5 d0
      go_upto_region 7 with ((with_reducible apply wcopyA); rfl; rfl; exact d9; exact hr; exact hmin.out; omega)
      rw [cut_part HQ.out]
      generalize hw6 : World.setRow _ _ _ = w6
      have c0 := hid (show Blk w6 w.heap.size 28 (ar 64 s) by rw [← hw6]; exact D0.out.setRow_other (by omega) _)
      have c1 := hid (show Blk w6 (w.heap.size + 1) 35 (ar 16 (XtM.tk t k)) by rw [← hw6]; exact d1.out.setRow_other (by omega) _)
      have c2 := hid (show Blk w6 (w.heap.size + 2) 28 (ar 64 fun _ => 0) by rw [← hw6]; exact d2.out.setRow_other (by omega) _)
      have c3 := hid (show Blk w6 (w.heap.size + 3) 28 (ar 64 (upTo (16 * k) (fun _ => 0) (XtM.sect (AesM.sealM K) t s))) by rw [← hw6]; exact d3.out.setRow_other (by omega) _)
      have c9 := hid (show Blk w6 g9 35 (ar 16 (XtM.part s k)) by rw [← hw6]; exact d9.setRow_same _)
      have cc := hid (show Kc w c K w6 by rw [← hw6]; exact ⟨by obtain ⟨b, h1⟩ := dc.out.1; exact ⟨b, Blk.setRow_other h1 (by omega) _⟩, grown_row dc.out.2 (by omega) _⟩)
      clear hw6 D0 d1 d2 d3 d9 dc hr hmin
      refine wp_region_tail (C := Kc w6 c K) 7 (by kernel_rfl) (by kernel_rfl) (by kernel_rfl) ⟨cc.out.1, only_drew (only_refl _ _) (Drew.refl _)⟩ ?_
      simp only [List.take_succ_cons, List.take_zero, List.drop_succ_cons, List.drop_zero]
      apply wpK_val
      · rfl
      · intro w' hw'
        go_simp
        first | exact rfl | exact ⟨rfl, hw'⟩
      simp only [Act.put, List.setIfInBounds_toArray, List.set_cons_succ, List.set_cons_zero]
      apply kldA tBk
      · rfl
      · rfl
      · exact fun w' hw' => (hw'.blk c9.out (by omega)).head
      simp only [Act.put, List.setIfInBounds_toArray, List.set_cons_succ, List.set_cons_zero]
      apply kldA tBk
      · rfl
      · rfl
      · exact fun w' hw' => (hw'.blk c1.out (by omega)).head
      simp only [Act.put, List.setIfInBounds_toArray, List.set_cons_succ, List.set_cons_zero]
      apply wpK_val
      · rfl
      · intro w' hw'
        go_simp
        exact (add_any (XtM.part s k) (XtM.tk t k) (XtM.part_bt HS.out k) (XtM.tk_bt HT.out k) w').mono fun e w2 h => ⟨h.1, hw'.more h.2⟩
      simp only [Act.put, List.setIfInBounds_toArray, List.set_cons_succ, List.set_cons_zero]
      apply wpK_val
      · rfl
      · intro w' hw'
        go_simp
        exact hw'.sealing HK.out (XtM.add_bt (XtM.part_bt HS.out k) (XtM.tk_bt HT.out k))
      simp only [Act.put, List.setIfInBounds_toArray, List.set_cons_succ, List.set_cons_zero]
      apply kldA tBk
      · rfl
      · rfl
      · exact fun w' hw' => (hw'.blk c1.out (by omega)).head
      simp only [Act.put, List.setIfInBounds_toArray, List.set_cons_succ, List.set_cons_zero]
      apply wpK_val
      · rfl
      · intro w' hw'
        go_simp
        exact (add_any (AesM.sealM K (AesM.add (XtM.part s k) (XtM.tk t k))) (XtM.tk t k) (AesM.seal_bt HK.out) (XtM.tk_bt HT.out k) w').mono fun e w2 h => ⟨h.1, hw'.more h.2⟩
      simp only [Act.put, List.setIfInBounds_toArray, List.set_cons_succ, List.set_cons_zero]
      refine wpK_nil fun w7 hw7 => ?_
      have d0 := hid (hw7.blk c0.out (by omega))
      have d1 := hid (hw7.blk c1.out (by omega))
      have d2 := hid (hw7.blk c2.out (by omega))
      have d3 := hid (hw7.blk c3.out (by omega))
      have d9 := hw7.blk c9.out (by omega)
      have dc := hid (cc.out.trans hw7)
      clear c0 c1 c2 c3 c9 cc hw7
      go_upto_region 8 with ((with_reducible apply stA tBk); rfl; rfl; exact d9)
      rw [show AesM.add (AesM.sealM K (AesM.add (XtM.part s k) (XtM.tk t k))) (XtM.tk t k) = XtM.blk (AesM.sealM K) (XtM.tk t k) (XtM.part s k) from rfl]
      generalize hw8 : World.setRow _ _ _ = w8
      have c0 := hid (show Blk w8 w.heap.size 28 (ar 64 s) by rw [← hw8]; exact d0.out.setRow_other (by omega) _)
      have c1 := hid (show Blk w8 (w.heap.size + 1) 35 (ar 16 (XtM.tk t k)) by rw [← hw8]; exact d1.out.setRow_other (by omega) _)
      have c2 := hid (show Blk w8 (w.heap.size + 2) 28 (ar 64 fun _ => 0) by rw [← hw8]; exact d2.out.setRow_other (by omega) _)
      have c3 := hid (show Blk w8 (w.heap.size + 3) 28 (ar 64 (upTo (16 * k) (fun _ => 0) (XtM.sect (AesM.sealM K) t s))) by rw [← hw8]; exact d3.out.setRow_other (by omega) _)
      have c9 := hid (show Blk w8 g9 35 (ar 16 (XtM.blk (AesM.sealM K) (XtM.tk t k) (XtM.part s k))) by rw [← hw8]; exact d9.setRow_same _)
      have cc := hid (show Kc w c K w8 by rw [← hw8]; exact ⟨by obtain ⟨b, h1⟩ := dc.out.1; exact ⟨b, Blk.setRow_other h1 (by omega) _⟩, grown_row dc.out.2 (by omega) _⟩)
      clear hw8 d0 d1 d2 d3 d9 dc
      refine wp_region_tail (C := Drew w8) 3 (by kernel_rfl) (by kernel_rfl) (by kernel_rfl) (Drew.refl _) ?_
      simp only [List.take_succ_cons, List.take_zero, List.drop_succ_cons, List.drop_zero]
      apply wpK_val
      · rfl
      · intro w' hw'
        go_simp
        first | exact rfl | exact ⟨rfl, hw'⟩
      simp only [Act.put, List.setIfInBounds_toArray, List.set_cons_succ, List.set_cons_zero]
      apply wpK_val
      · rfl
      · intro w' hw'
        have h1 : _ := sl_sec (g := w.heap.size + 3) (q := q) (by omega) w'
        go_simp
        first | exact rfl | exact ⟨rfl, hw'⟩
      simp only [Act.put, List.setIfInBounds_toArray, List.set_cons_succ, List.set_cons_zero]
      apply wpK_val
      · rfl
      · intro w' hw'
        go_simp
        first | exact rfl | exact ⟨rfl, hw'⟩
      simp only [Act.put, List.setIfInBounds_toArray, List.set_cons_succ, List.set_cons_zero]
      refine wpK_nil fun w9 hw9 => ?_
      have d0 := hid (hw9.blk c0.out)
      have d1 := hid (hw9.blk c1.out)
      have d2 := hid (hw9.blk c2.out)
      have d3 := hw9.blk c3.out
      have d9 := hw9.blk c9.out
      have dc := hid (show Kc w c K w9 from ⟨by obtain ⟨b, h1⟩ := cc.out.1; exact ⟨b, hw9.blk h1⟩, only_drew cc.out.2 hw9⟩)
      have hr := d9.head
      have hmin := hid (show 16 = Nat.min 16 (64 - q) from (Nat.min_eq_left (by omega)).symm)
      have hfit := hid (show q + 16 ≤ 64 by omega)
      clear c0 c1 c2 c3 c9 cc hw9 d9
      go_upto_region 9 with ((with_reducible apply wcopyA); rfl; rfl; exact d3; exact hr; exact hmin.out; exact hfit.out)
      rw [putA_next HQ.out (h' := XtM.blk (AesM.sealM K) (XtM.tk t k) (XtM.part s k)) fun i hi => by unfold XtM.sect; rw [show (16 * k + i) / 16 = k by omega, show (16 * k + i) % 16 = i by omega]]
      generalize hw10 : World.setRow _ _ _ = w10
      have c0 := hid (show Blk w10 w.heap.size 28 (ar 64 s) by rw [← hw10]; exact d0.out.setRow_other (by omega) _)
      have c1 := show Blk w10 (w.heap.size + 1) 35 (ar 16 (XtM.tk t k)) by rw [← hw10]; exact d1.out.setRow_other (by omega) _
      have c2 := hid (show Blk w10 (w.heap.size + 2) 28 (ar 64 fun _ => 0) by rw [← hw10]; exact d2.out.setRow_other (by omega) _)
      have c3 := hid (show Blk w10 (w.heap.size + 3) 28 (ar 64 (upTo (16 * (k + 1)) (fun _ => 0) (XtM.sect (AesM.sealM K) t s))) by rw [← hw10]; exact d3.setRow_same _)
      have cc := hid (show Kc w c K w10 by rw [← hw10]; exact ⟨by obtain ⟨b, h1⟩ := dc.out.1; exact ⟨b, Blk.setRow_other h1 (by omega) _⟩, grown_row dc.out.2 (by omega) _⟩)
      clear hw10 d0 d1 d2 d3 dc hr hmin hfit
      go_wp2_with ((with_reducible apply ldA tBk); rfl; exact c1)
      refine (double_any (XtM.tk t k) (XtM.tk_bt HT.out k) _).mono ?_
      rintro e w11 ⟨rfl, h11⟩
      have d0 := hid (c0.out.below h11 c0.out.lt)
      have d1 := c1.below h11 c1.lt
      have d2 := hid (c2.out.below h11 c2.out.lt)
      have d3 := hid (c3.out.below h11 c3.out.lt)
      have dc := hid (cc.out.more h11)
      clear c0 c1 c2 c3 cc h11
      go_wp2_with ((with_reducible apply stA tBk); rfl; rfl; exact d1)
      go_roundw
      case rel =>
        refine ⟨k + 1, q + 16, by omega, by have := HQ.out; omega, by go_num, hid (d0.out.setRow_other (by omega) _), hid (d1.setRow_same _), hid (d2.out.setRow_other (by omega) _), hid (d3.out.setRow_other (by omega) _), hid ⟨?_, grown_row dc.out.2 (by omega) _⟩⟩
        obtain ⟨b, h1⟩ := dc.out.1
        exact ⟨b, Blk.setRow_other h1 (by omega) _⟩
      case measure => simp [intOf]; omega
    · have tq : decide ((q : Int) < 64) = false := by have := HQ.out; simp; omega
      have c3 := b3.out
      have c2 := b2.out
      rw [upTo_all (by omega)] at c3
      go_wp2_with (first | ((with_reducible apply ldA tSec); rfl; exact c3) | ((with_reducible apply stA tSec); rfl; rfl; exact c2))
      apply ret_ar tSec Try.results15
      · rfl
      · rfl
      · exact c2.setRow_same _
      refine ⟨rfl, ?_, grown_row bc.out.2 (by omega) _⟩
      obtain ⟨b, h1⟩ := bc.out.1
      exact ⟨b, Blk.setRow_other h1 (by omega) _⟩
set_option maxHeartbeats 800000 in
set_option maxRecDepth 100000 in
theorem each_opening (K t s : Nat → Nat) (hK : Bt K) (ht : Bt t) (hs : Bt s) (c : Nat) (b : Bool) (w : World) (hc : Cip w c K b) :
    Calls Try.prog 15 #[.agg (ar 64 s), .agg (ar 16 t), .func (.func 21) #[.pointer (some ⟨c, 0, none⟩)] #[]] w fun e w' => e = .returned (.agg (ar 64 (XtM.sect (AesM.open' K) t s))) ∧ Kc w c K w' := by
  have HK := hid hK
  have HT := hid ht
  have HS := hid hs
  have hE := hid (show ∀ f, Bt f → Bt (AesM.open' K f) from fun f _ => AesM.open_bt hK)
  have hcl := cip_lt hc
  have HC := hid (show Kc w c K w from ⟨⟨b, hc⟩, only_refl _ _⟩)
  clear hK ht hs hc
  go_enter Try.func15, Try.ntmps15
  go_upto_region 2 with (first | (with_reducible apply alA tSec) | (with_reducible apply alA tBk))
  generalize hw1 : World.alloc (World.alloc (World.alloc (World.alloc w _) _) _) _ = w1
  have b0 := hid (show Blk w1 w.heap.size 28 (ar 64 s) by rw [← hw1]; exact (((Blk.new _ _ _).alloc _).alloc _).alloc _)
  have b1 := hid (show Blk w1 (w.heap.size + 1) 35 (ar 16 t) by rw [← hw1]; exact ((Blk.top rfl (by simp)).alloc _).alloc _)
  have b2 := hid (show Blk w1 (w.heap.size + 2) 28 (ar 64 fun _ => 0) by rw [← hw1]; exact (Blk.top rfl (by simp)).alloc _)
  have b3 := hid (show Blk w1 (w.heap.size + 3) 28 (ar 64 fun _ => 0) by rw [← hw1]; exact Blk.top rfl (by simp))
  have hb : Below w.heap.size w w1 := by rw [← hw1]; exact ((((Below.refl _ _).alloc (Nat.le_refl _) _).alloc (by simp) _).alloc (by simp; omega) _).alloc (by simp; omega) _
  have bc := hid (HC.out.more hb)
  clear hw1 hb HC
  go_wp2_with fail
  go_loopw [8] (fun i wr => ∃ k q : Nat, k ≤ 4 ∧ q = 16 * k ∧ i = .int .i64 q ∧ Hid (Blk wr w.heap.size 28 (ar 64 s)) ∧ Hid (Blk wr (w.heap.size + 1) 35 (ar 16 (XtM.tk t k))) ∧ Hid (Blk wr (w.heap.size + 2) 28 (ar 64 fun _ => 0)) ∧ Hid (Blk wr (w.heap.size + 3) 28 (ar 64 (upTo (16 * k) (fun _ => 0) (XtM.sect (AesM.open' K) t s)))) ∧ Hid (Kc w c K wr)) (fun i _ => 64 - (intOf i).toNat)
  case atStart => exact ⟨0, 0, by omega, rfl, rfl, b0, b1, b2, by rw [Nat.mul_zero, upTo_zero]; exact b3, bc⟩
  case round =>
    clear b0 b1 b2 b3 bc
    obtain ⟨k, q, hk, hq, rfl, b0, b1, b2, b3, bc⟩ := hrel
    have HQ := hid hq
    clear hq
    by_cases hlt : k < 4
    · have tq : (q : Int) < 64 := by have := HQ.out; omega
      have hq48 : q ≤ 48 := by have := HQ.out; omega
      have hz : Blk (wr.alloc (.cells (ar 16 fun _ => 0) 35)) wr.heap.size 35 (ar 16 fun _ => 0) := Blk.new _ _ _
      obtain ⟨g9, hg9⟩ : ∃ g9, g9 = wr.heap.size := ⟨_, rfl⟩
      have hw3 : w.heap.size + 3 < g9 := by rw [hg9]; exact b3.out.lt
      go_upto_region 6 with (with_reducible apply alA tBk)
      rw [← hg9] at hz ⊢
      generalize hw4 : World.alloc _ _ = w4 at hz ⊢
      have c0 := hid (show Blk w4 w.heap.size 28 (ar 64 s) by rw [← hw4]; exact b0.out.alloc _)
      have c1 := hid (show Blk w4 (w.heap.size + 1) 35 (ar 16 (XtM.tk t k)) by rw [← hw4]; exact b1.out.alloc _)
      have c2 := hid (show Blk w4 (w.heap.size + 2) 28 (ar 64 fun _ => 0) by rw [← hw4]; exact b2.out.alloc _)
      have c3 := hid (show Blk w4 (w.heap.size + 3) 28 (ar 64 (upTo (16 * k) (fun _ => 0) (XtM.sect (AesM.open' K) t s))) by rw [← hw4]; exact b3.out.alloc _)
      have c9 := hid hz
      have cc := hid (show Kc w c K w4 by rw [← hw4]; exact bc.out.more ((Below.refl _ _).alloc (Nat.le_refl _) _))
      clear hw4 hz b0 b1 b2 b3 bc hg9
      refine wp_region_tail (C := Drew w4) 3 (by kernel_rfl) (by kernel_rfl) (by kernel_rfl) (Drew.refl _) ?_
      simp only [List.take_succ_cons, List.take_zero, List.drop_succ_cons, List.drop_zero]
      apply wpK_val
      · rfl
      · intro w' hw'
        go_simp
        first | exact rfl | exact ⟨rfl, hw'⟩
      simp only [Act.put, List.setIfInBounds_toArray, List.set_cons_succ, List.set_cons_zero]
      apply wpK_val
      · rfl
      · intro w' hw'
        go_simp
        first | exact rfl | exact ⟨rfl, hw'⟩
      simp only [Act.put, List.setIfInBounds_toArray, List.set_cons_succ, List.set_cons_zero]
      apply wpK_val
      · rfl
      · intro w' hw'
        have h1 : _ := sl_sec (g := w.heap.size) (q := q) (by omega) w'
        go_simp
        first | exact rfl | exact ⟨rfl, hw'⟩
      simp only [Act.put, List.setIfInBounds_toArray, List.set_cons_succ, List.set_cons_zero]
      refine wpK_nil fun w5 hw5 => ?_
      have d0 := hw5.blk c0.out
      have d1 := hid (hw5.blk c1.out)
      have d2 := hid (hw5.blk c2.out)
      have d3 := hid (hw5.blk c3.out)
      have d9 := hw5.blk c9.out
      have dc := hid (show Kc w c K w5 from ⟨by obtain ⟨b, h1⟩ := cc.out.1; exact ⟨b, hw5.blk h1⟩, only_drew cc.out.2 hw5⟩)
      have hr := d0.arRange (o := q) (m := 16) (by omega)
      have hmin := hid (show 16 = Nat.min (64 - q) 16 from (Nat.min_eq_right (by omega)).symm)
      have D0 := hid d0
      clear c0 c1 c2 c3 c9 cc hw5 d0
      go_upto_region 7 with ((with_reducible apply wcopyA); rfl; rfl; exact d9; exact hr; exact hmin.out; omega)
      rw [cut_part HQ.out]
      generalize hw6 : World.setRow _ _ _ = w6
      have c0 := hid (show Blk w6 w.heap.size 28 (ar 64 s) by rw [← hw6]; exact D0.out.setRow_other (by omega) _)
      have c1 := hid (show Blk w6 (w.heap.size + 1) 35 (ar 16 (XtM.tk t k)) by rw [← hw6]; exact d1.out.setRow_other (by omega) _)
      have c2 := hid (show Blk w6 (w.heap.size + 2) 28 (ar 64 fun _ => 0) by rw [← hw6]; exact d2.out.setRow_other (by omega) _)
      have c3 := hid (show Blk w6 (w.heap.size + 3) 28 (ar 64 (upTo (16 * k) (fun _ => 0) (XtM.sect (AesM.open' K) t s))) by rw [← hw6]; exact d3.out.setRow_other (by omega) _)
      have c9 := hid (show Blk w6 g9 35 (ar 16 (XtM.part s k)) by rw [← hw6]; exact d9.setRow_same _)
      have cc := hid (show Kc w c K w6 by rw [← hw6]; exact ⟨by obtain ⟨b, h1⟩ := dc.out.1; exact ⟨b, Blk.setRow_other h1 (by omega) _⟩, grown_row dc.out.2 (by omega) _⟩)
      clear hw6 D0 d1 d2 d3 d9 dc hr hmin
      refine wp_region_tail (C := Kc w6 c K) 7 (by kernel_rfl) (by kernel_rfl) (by kernel_rfl) ⟨cc.out.1, only_drew (only_refl _ _) (Drew.refl _)⟩ ?_
      simp only [List.take_succ_cons, List.take_zero, List.drop_succ_cons, List.drop_zero]
      apply wpK_val
      · rfl
      · intro w' hw'
        go_simp
        first | exact rfl | exact ⟨rfl, hw'⟩
      simp only [Act.put, List.setIfInBounds_toArray, List.set_cons_succ, List.set_cons_zero]
      apply kldA tBk
      · rfl
      · rfl
      · exact fun w' hw' => (hw'.blk c9.out (by omega)).head
      simp only [Act.put, List.setIfInBounds_toArray, List.set_cons_succ, List.set_cons_zero]
      apply kldA tBk
      · rfl
      · rfl
      · exact fun w' hw' => (hw'.blk c1.out (by omega)).head
      simp only [Act.put, List.setIfInBounds_toArray, List.set_cons_succ, List.set_cons_zero]
      apply wpK_val
      · rfl
      · intro w' hw'
        go_simp
        exact (add_any (XtM.part s k) (XtM.tk t k) (XtM.part_bt HS.out k) (XtM.tk_bt HT.out k) w').mono fun e w2 h => ⟨h.1, hw'.more h.2⟩
      simp only [Act.put, List.setIfInBounds_toArray, List.set_cons_succ, List.set_cons_zero]
      apply wpK_val
      · rfl
      · intro w' hw'
        go_simp
        exact hw'.opening HK.out (XtM.add_bt (XtM.part_bt HS.out k) (XtM.tk_bt HT.out k))
      simp only [Act.put, List.setIfInBounds_toArray, List.set_cons_succ, List.set_cons_zero]
      apply kldA tBk
      · rfl
      · rfl
      · exact fun w' hw' => (hw'.blk c1.out (by omega)).head
      simp only [Act.put, List.setIfInBounds_toArray, List.set_cons_succ, List.set_cons_zero]
      apply wpK_val
      · rfl
      · intro w' hw'
        go_simp
        exact (add_any (AesM.open' K (AesM.add (XtM.part s k) (XtM.tk t k))) (XtM.tk t k) (AesM.open_bt HK.out) (XtM.tk_bt HT.out k) w').mono fun e w2 h => ⟨h.1, hw'.more h.2⟩
      simp only [Act.put, List.setIfInBounds_toArray, List.set_cons_succ, List.set_cons_zero]
      refine wpK_nil fun w7 hw7 => ?_
      have d0 := hid (hw7.blk c0.out (by omega))
      have d1 := hid (hw7.blk c1.out (by omega))
      have d2 := hid (hw7.blk c2.out (by omega))
      have d3 := hid (hw7.blk c3.out (by omega))
      have d9 := hw7.blk c9.out (by omega)
      have dc := hid (cc.out.trans hw7)
      clear c0 c1 c2 c3 c9 cc hw7
      go_upto_region 8 with ((with_reducible apply stA tBk); rfl; rfl; exact d9)
      rw [show AesM.add (AesM.open' K (AesM.add (XtM.part s k) (XtM.tk t k))) (XtM.tk t k) = XtM.blk (AesM.open' K) (XtM.tk t k) (XtM.part s k) from rfl]
      generalize hw8 : World.setRow _ _ _ = w8
      have c0 := hid (show Blk w8 w.heap.size 28 (ar 64 s) by rw [← hw8]; exact d0.out.setRow_other (by omega) _)
      have c1 := hid (show Blk w8 (w.heap.size + 1) 35 (ar 16 (XtM.tk t k)) by rw [← hw8]; exact d1.out.setRow_other (by omega) _)
      have c2 := hid (show Blk w8 (w.heap.size + 2) 28 (ar 64 fun _ => 0) by rw [← hw8]; exact d2.out.setRow_other (by omega) _)
      have c3 := hid (show Blk w8 (w.heap.size + 3) 28 (ar 64 (upTo (16 * k) (fun _ => 0) (XtM.sect (AesM.open' K) t s))) by rw [← hw8]; exact d3.out.setRow_other (by omega) _)
      have c9 := hid (show Blk w8 g9 35 (ar 16 (XtM.blk (AesM.open' K) (XtM.tk t k) (XtM.part s k))) by rw [← hw8]; exact d9.setRow_same _)
      have cc := hid (show Kc w c K w8 by rw [← hw8]; exact ⟨by obtain ⟨b, h1⟩ := dc.out.1; exact ⟨b, Blk.setRow_other h1 (by omega) _⟩, grown_row dc.out.2 (by omega) _⟩)
      clear hw8 d0 d1 d2 d3 d9 dc
      refine wp_region_tail (C := Drew w8) 3 (by kernel_rfl) (by kernel_rfl) (by kernel_rfl) (Drew.refl _) ?_
      simp only [List.take_succ_cons, List.take_zero, List.drop_succ_cons, List.drop_zero]
      apply wpK_val
      · rfl
      · intro w' hw'
        go_simp
        first | exact rfl | exact ⟨rfl, hw'⟩
      simp only [Act.put, List.setIfInBounds_toArray, List.set_cons_succ, List.set_cons_zero]
      apply wpK_val
      · rfl
      · intro w' hw'
        have h1 : _ := sl_sec (g := w.heap.size + 3) (q := q) (by omega) w'
        go_simp
        first | exact rfl | exact ⟨rfl, hw'⟩
      simp only [Act.put, List.setIfInBounds_toArray, List.set_cons_succ, List.set_cons_zero]
      apply wpK_val
      · rfl
      · intro w' hw'
        go_simp
        first | exact rfl | exact ⟨rfl, hw'⟩
      simp only [Act.put, List.setIfInBounds_toArray, List.set_cons_succ, List.set_cons_zero]
      refine wpK_nil fun w9 hw9 => ?_
      have d0 := hid (hw9.blk c0.out)
      have d1 := hid (hw9.blk c1.out)
      have d2 := hid (hw9.blk c2.out)
      have d3 := hw9.blk c3.out
      have d9 := hw9.blk c9.out
      have dc := hid (show Kc w c K w9 from ⟨by obtain ⟨b, h1⟩ := cc.out.1; exact ⟨b, hw9.blk h1⟩, only_drew cc.out.2 hw9⟩)
      have hr := d9.head
      have hmin := hid (show 16 = Nat.min 16 (64 - q) from (Nat.min_eq_left (by omega)).symm)
      have hfit := hid (show q + 16 ≤ 64 by omega)
      clear c0 c1 c2 c3 c9 cc hw9 d9
      go_upto_region 9 with ((with_reducible apply wcopyA); rfl; rfl; exact d3; exact hr; exact hmin.out; exact hfit.out)
      rw [putA_next HQ.out (h' := XtM.blk (AesM.open' K) (XtM.tk t k) (XtM.part s k)) fun i hi => by unfold XtM.sect; rw [show (16 * k + i) / 16 = k by omega, show (16 * k + i) % 16 = i by omega]]
      generalize hw10 : World.setRow _ _ _ = w10
      have c0 := hid (show Blk w10 w.heap.size 28 (ar 64 s) by rw [← hw10]; exact d0.out.setRow_other (by omega) _)
      have c1 := show Blk w10 (w.heap.size + 1) 35 (ar 16 (XtM.tk t k)) by rw [← hw10]; exact d1.out.setRow_other (by omega) _
      have c2 := hid (show Blk w10 (w.heap.size + 2) 28 (ar 64 fun _ => 0) by rw [← hw10]; exact d2.out.setRow_other (by omega) _)
      have c3 := hid (show Blk w10 (w.heap.size + 3) 28 (ar 64 (upTo (16 * (k + 1)) (fun _ => 0) (XtM.sect (AesM.open' K) t s))) by rw [← hw10]; exact d3.setRow_same _)
      have cc := hid (show Kc w c K w10 by rw [← hw10]; exact ⟨by obtain ⟨b, h1⟩ := dc.out.1; exact ⟨b, Blk.setRow_other h1 (by omega) _⟩, grown_row dc.out.2 (by omega) _⟩)
      clear hw10 d0 d1 d2 d3 dc hr hmin hfit
      go_wp2_with ((with_reducible apply ldA tBk); rfl; exact c1)
      refine (double_any (XtM.tk t k) (XtM.tk_bt HT.out k) _).mono ?_
      rintro e w11 ⟨rfl, h11⟩
      have d0 := hid (c0.out.below h11 c0.out.lt)
      have d1 := c1.below h11 c1.lt
      have d2 := hid (c2.out.below h11 c2.out.lt)
      have d3 := hid (c3.out.below h11 c3.out.lt)
      have dc := hid (cc.out.more h11)
      clear c0 c1 c2 c3 cc h11
      go_wp2_with ((with_reducible apply stA tBk); rfl; rfl; exact d1)
      go_roundw
      case rel =>
        refine ⟨k + 1, q + 16, by omega, by have := HQ.out; omega, by go_num, hid (d0.out.setRow_other (by omega) _), hid (d1.setRow_same _), hid (d2.out.setRow_other (by omega) _), hid (d3.out.setRow_other (by omega) _), hid ⟨?_, grown_row dc.out.2 (by omega) _⟩⟩
        obtain ⟨b, h1⟩ := dc.out.1
        exact ⟨b, Blk.setRow_other h1 (by omega) _⟩
      case measure => simp [intOf]; omega
    · have tq : decide ((q : Int) < 64) = false := by have := HQ.out; simp; omega
      have c3 := b3.out
      have c2 := b2.out
      rw [upTo_all (by omega)] at c3
      go_wp2_with (first | ((with_reducible apply ldA tSec); rfl; exact c3) | ((with_reducible apply stA tSec); rfl; rfl; exact c2))
      apply ret_ar tSec Try.results15
      · rfl
      · rfl
      · exact c2.setRow_same _
      refine ⟨rfl, ?_, grown_row bc.out.2 (by omega) _⟩
      obtain ⟨b, h1⟩ := bc.out.1
      exact ⟨b, Blk.setRow_other h1 (by omega) _⟩
end XtP
end Go.Proofs.Ytkcfonlondlmeaa
namespace Go.Proofs.Ytkcfonlondlmeaa
open Go.ChangeShapes Go.WideShapes Go.ChangeAt Go.RowKit
open AesM (Bt Q16)
open AesP (tBk tKey wr_nat Cip cip_lt new_any nS nV nS_ok)
attribute [local go_sem] Gives GivesE
namespace XtP
/-- What the two calls have made. -/
def nP (B : Nat) (K L : Nat → Nat) (j : Nat) (vs : Nat → Value) (w : World) : Prop :=
  (j = 1 → ∃ c, vs j = pt c ∧ Cip w c K false ∧ B ≤ c) ∧ (j = 3 → ∃ c, vs j = pt c ∧ Cip w c L false ∧ B ≤ c)
section
variable {B i j : Nat} {K L : Nat → Nat} {vs : Nat → Value} {v : Value} {w w' : World}
theorem nP_below (h : nP B K L j vs w) (hb : Below w.heap.size w w') : nP B K L j vs w' :=
  ⟨fun e => by obtain ⟨c, h1, h2, h3⟩ := h.1 e; exact ⟨c, h1, Blk.below h2 hb (cip_lt h2), h3⟩, fun e => by obtain ⟨c, h1, h2, h3⟩ := h.2 e; exact ⟨c, h1, Blk.below h2 hb (cip_lt h2), h3⟩⟩
theorem nP_loc (hji : j ≠ i) (h : nP B K L j vs w) : nP B K L j (updV vs i v) w := by
  unfold nP at h ⊢
  rw [updV_ne _ _ hji]
  exact h
theorem nP_none (h1 : j ≠ 1) (h3 : j ≠ 3) : nP B K L j vs w := ⟨fun e => absurd e h1, fun e => absurd e h3⟩
end
set_option maxHeartbeats 400000 in
set_option maxRecDepth 100000 in
theorem mode_any (k l : Nat → Nat) (hk : Bt k) (hl : Bt l) (w : World) :
    Calls Try.prog 5 #[.agg (ar 32 k), .agg (ar 32 l)] w fun e w' => ∃ g c d, e = .returned (.pointer (some ⟨g, 0, none⟩)) ∧ w.heap.size ≤ g ∧ w.heap.size ≤ c ∧ w.heap.size ≤ d ∧ Md w' g c d ∧ Cip w' c (AesM.ks k) false ∧ Cip w' d (AesM.ks l) false ∧ Below w.heap.size w w' := by
  have HK := hid hk
  have HL := hid hl
  clear hk hl
  go_enter Try.func5, Try.ntmps5
  go_upto_region 1 with fail
  generalize hw3 : World.alloc (World.alloc w _) _ = w3
  have b1 := hid (show Blk w3 w.heap.size 23 (ar 32 k) by rw [← hw3]; exact (Blk.new _ _ _).alloc _)
  have b2 := hid (show Blk w3 (w.heap.size + 1) 23 (ar 32 l) by rw [← hw3]; exact Blk.top rfl (by simp))
  have hb := hid (show Below w.heap.size w w3 by rw [← hw3]; exact ((Below.refl _ _).alloc (Nat.le_refl _) _).alloc (by simp) _)
  clear hw3
  refine wp_region_ex (S := nS [some (.agg (ar 32 k)), none, some (.agg (ar 32 l)), none]) (D := nP w3.heap.size (AesM.ks k) (AesM.ks l)) (K := fun _ _ w w' => Below w.heap.size w w') (C := fun _ w' => Below w3.heap.size w3 w') 4 (by kernel_rfl) (by kernel_rfl) (by kernel_rfl)
    _ (nS_ok _) (fun i j vs w w' _ _ _ h hb => nP_below h hb) (fun j i vs v w hji _ h => nP_loc hji h) (Below.refl _ _).drew fun vs => ?_
  simp only [List.take_succ_cons, List.take_zero, List.drop_succ_cons, List.drop_zero]
  refine ⟨.inl ⟨rfl, fun dd w' hd hC hDs => ?_⟩, fun e => ?_⟩
  · exact gE_load tKey rfl (b1.out.below hC b1.out.lt).head ⟨rfl, hC, Below.refl _ _, nP_none (by omega) (by omega)⟩
  have e' : vs 0 = _ := e
  rw [e']
  clear e e'
  simp only [Act.put, List.setIfInBounds_toArray, List.set_cons_succ, List.set_cons_zero]
  refine ⟨.inl ⟨rfl, fun dd w' hd hC hDs => ?_⟩, fun e => ?_⟩
  · go_simp
    refine (new_any k HK.out w').mono ?_
    rintro e w'' ⟨g, rfl, h2, h3, h4⟩
    exact ⟨_, rfl, ⟨g, rfl⟩, hC.trans (h4.mono hC.size), h4, ⟨fun _ => ⟨g, updV_self _ _ _, h3, Nat.le_trans hC.size h2⟩, fun e => by omega⟩⟩
  clear e
  simp only [Act.put, List.setIfInBounds_toArray, List.set_cons_succ, List.set_cons_zero]
  refine ⟨.inl ⟨rfl, fun dd w' hd hC hDs => ?_⟩, fun e => ?_⟩
  · exact gE_load tKey rfl (b2.out.below hC b2.out.lt).head ⟨rfl, hC, Below.refl _ _, nP_none (by omega) (by omega)⟩
  have e' : vs 2 = _ := e
  rw [e']
  clear e e'
  simp only [Act.put, List.setIfInBounds_toArray, List.set_cons_succ, List.set_cons_zero]
  refine ⟨.inl ⟨rfl, fun dd w' hd hC hDs => ?_⟩, fun e => ?_⟩
  · go_simp
    refine (new_any l HL.out w').mono ?_
    rintro e w'' ⟨g, rfl, h2, h3, h4⟩
    exact ⟨_, rfl, ⟨g, rfl⟩, hC.trans (h4.mono hC.size), h4, ⟨fun e => by omega, fun _ => ⟨g, updV_self _ _ _, h3, Nat.le_trans hC.size h2⟩⟩⟩
  clear e
  simp only [Act.put, List.setIfInBounds_toArray, List.set_cons_succ, List.set_cons_zero]
  intro dd w5 _ hw5 hD5
  obtain ⟨c, e1, hc, hcB⟩ := (hD5 1 (by omega)).1 rfl
  obtain ⟨d, e3, hd, hdB⟩ := (hD5 3 (by omega)).2 rfl
  rw [e1, e3]
  have rb := hid (hb.out.trans (hw5.mono hb.out.size))
  have HC := hid hc
  have HD := hid hd
  have hs := hb.out.size
  have hwg : w.heap.size ≤ w5.heap.size := rb.out.size
  clear b1 b2 hb hw5 hD5 e1 e3 hc hd
  unfold pt
  go_wp2_with fail
  go_ret
  exact ⟨_, c, d, rfl, hwg, by omega, by omega, Blk.new _ _ _, Blk.alloc HC.out _, Blk.alloc HD.out _, rb.out.alloc hwg _⟩
end XtP
end Go.Proofs.Ytkcfonlondlmeaa
namespace Go.Proofs.Ytkcfonlondlmeaa
open Go.ChangeShapes Go.WideShapes Go.ChangeAt Go.RowKit
open AesM (Bt Q16)
open AesP (tBk wr_nat Cip cip_lt)
namespace XtP
attribute [local go_sem] Gives
set_option maxHeartbeats 800000 in
set_option maxRecDepth 100000 in
theorem sealing_any (K L s : Nat → Nat) (hK : Bt K) (hL : Bt L) (hs : Bt s) (n : Nat) (hn : n < 18446744073709551616) (g c d : Nat) (w : World) (hm : Md w g c d) (hc : ∃ b, Cip w c K b) (hd : ∃ b, Cip w d L b) :
    Calls Try.prog 6 #[.pointer (some ⟨g, 0, none⟩), .int .u64 n, .agg (ar 64 s)] w fun e w' => e = .returned (.agg (ar 64 (XtM.sect (AesM.sealM K) (AesM.sealM L (XtM.tw n)) s))) ∧ Kc w c K w' := by
  have HK := hid hK
  have HL := hid hL
  have HS := hid hs
  have hgl := hm.lt
  have hgc : c ≠ g := by obtain ⟨b, h1⟩ := hc; exact hm.ne h1
  have hcl : c < w.heap.size := by obtain ⟨b, h1⟩ := hc; exact cip_lt h1
  have HM := hid hm
  have HC := hid (show Kc w c K w from ⟨hc, only_refl _ _⟩)
  have HD := hid hd
  clear hK hL hs hm hc hd
  go_enter Try.func6, Try.ntmps6
  go_upto_region 1 with (with_reducible apply alA tSec)
  generalize hw1 : World.alloc (World.alloc w _) _ = w1
  have b0 := hid (show Blk w1 w.heap.size 28 (ar 64 s) by rw [← hw1]; exact (Blk.new _ _ _).alloc _)
  have b1 := hid (show Blk w1 (w.heap.size + 1) 28 (ar 64 fun _ => 0) by rw [← hw1]; exact Blk.top rfl (by simp))
  have hb : Below w.heap.size w w1 := by rw [← hw1]; exact ((Below.refl _ _).alloc (Nat.le_refl _) _).alloc (by simp) _
  have bm := hid (show Md w1 g c d from Blk.below HM.out hb hgl)
  have bc := hid (HC.out.more hb)
  have bd := hid (cip_keep HC.out.1 HD.out bc.out.1 bc.out.2)
  clear hw1 hb HM HC HD
  go_wp2_with fail
  refine (made_any g c d w1 bm.out).mono ?_
  rintro e w' ⟨rfl, rfl⟩
  go_wp2_with fail
  refine wp_region_tail (C := Kc w1 c K) 10 (by kernel_rfl) (by kernel_rfl) (by kernel_rfl) ⟨bc.out.1, only_drew (only_refl _ _) (Drew.refl _)⟩ ?_
  simp only [List.take_succ_cons, List.take_zero, List.drop_succ_cons, List.drop_zero]
  apply kldA tSec
  · rfl
  · rfl
  · exact fun w' hw' => (hw'.blk b0.out (by omega)).head
  simp only [Act.put, List.setIfInBounds_toArray, List.set_cons_succ, List.set_cons_zero]
  apply wpK_val
  · rfl
  · intro w' hw'
    go_simp
    first | exact rfl | exact ⟨rfl, hw'⟩
  simp only [Act.put, List.setIfInBounds_toArray, List.set_cons_succ, List.set_cons_zero]
  apply wpK_val
  · rfl
  · intro w' hw'
    go_simp
    first | exact rfl | exact ⟨rfl, hw'⟩
  simp only [Act.put, List.setIfInBounds_toArray, List.set_cons_succ, List.set_cons_zero]
  apply wpK_val
  · rfl
  · intro w' hw'
    go_simp
    obtain ⟨b', hd'⟩ := cip_keep bc.out.1 bd.out hw'.1 hw'.2
    exact (first_any L HL.out n hn g c d b' w' (hw'.blk bm.out hgc.symm) hd').mono fun e w2 h => ⟨h.1, hw'.more h.2⟩
  simp only [Act.put, List.setIfInBounds_toArray, List.set_cons_succ, List.set_cons_zero]
  apply wpK_val
  · rfl
  · intro w' hw'
    go_simp
    first | exact rfl | exact ⟨rfl, hw'⟩
  simp only [Act.put, List.setIfInBounds_toArray, List.set_cons_succ, List.set_cons_zero]
  apply wpK_val
  · rfl
  · intro w' hw'
    go_simp
    first | exact rfl | exact ⟨rfl, hw'⟩
  simp only [Act.put, List.setIfInBounds_toArray, List.set_cons_succ, List.set_cons_zero]
  apply wpK_val
  · rfl
  · intro w' hw'
    go_simp
    first | exact rfl | exact ⟨rfl, hw'⟩
  simp only [Act.put, List.setIfInBounds_toArray, List.set_cons_succ, List.set_cons_zero]
  apply wpK_val
  · rfl
  · intro w' hw'
    have hcell := (show Md w' g c d from hw'.blk bm.out hgc.symm).data
    go_simp
    first | exact rfl | exact ⟨rfl, hw'⟩
  simp only [Act.put, List.setIfInBounds_toArray, List.set_cons_succ, List.set_cons_zero]
  apply wpK_val
  · rfl
  · intro w' hw'
    unfold pt
    simp only [Instr.makeFunc, go_sem, execOp, Sem.run_bind, Sem.run_pure, Result.andThen_ok]
    first | exact ⟨rfl, hw'⟩ | (go_simp; first | exact rfl | exact ⟨rfl, hw'⟩)
  simp only [Act.put, List.setIfInBounds_toArray, List.set_cons_succ, List.set_cons_zero]
  apply wpK_val
  · rfl
  · intro w' hw'
    go_simp
    obtain ⟨b', hc'⟩ := hw'.1
    exact (each_sealing K (AesM.sealM L (XtM.tw n)) s HK.out (AesM.seal_bt HL.out) HS.out c b' w' hc').mono fun e w2 h => ⟨h.1, hw'.trans h.2⟩
  simp only [Act.put, List.setIfInBounds_toArray, List.set_cons_succ, List.set_cons_zero]
  refine wpK_nil fun w5 hw5 => ?_
  have x1 := hw5.blk b1.out (by omega)
  have xc := bc.out.trans hw5
  clear b0 b1 bm bc bd hw5
  go_wp2_with ((with_reducible apply stA tSec); rfl; rfl; exact x1)
  apply ret_ar tSec Try.results6
  · rfl
  · rfl
  · exact x1.setRow_same _
  refine ⟨rfl, ?_, grown_row xc.2 (by omega) _⟩
  obtain ⟨b, h1⟩ := xc.1
  exact ⟨b, Blk.setRow_other h1 (by omega) _⟩
set_option maxHeartbeats 800000 in
set_option maxRecDepth 100000 in
theorem opening_any (K L s : Nat → Nat) (hK : Bt K) (hL : Bt L) (hs : Bt s) (n : Nat) (hn : n < 18446744073709551616) (g c d : Nat) (w : World) (hm : Md w g c d) (hc : ∃ b, Cip w c K b) (hd : ∃ b, Cip w d L b) :
    Calls Try.prog 8 #[.pointer (some ⟨g, 0, none⟩), .int .u64 n, .agg (ar 64 s)] w fun e w' => e = .returned (.agg (ar 64 (XtM.sect (AesM.open' K) (AesM.sealM L (XtM.tw n)) s))) ∧ Kc w c K w' := by
  have HK := hid hK
  have HL := hid hL
  have HS := hid hs
  have hgl := hm.lt
  have hgc : c ≠ g := by obtain ⟨b, h1⟩ := hc; exact hm.ne h1
  have hcl : c < w.heap.size := by obtain ⟨b, h1⟩ := hc; exact cip_lt h1
  have HM := hid hm
  have HC := hid (show Kc w c K w from ⟨hc, only_refl _ _⟩)
  have HD := hid hd
  clear hK hL hs hm hc hd
  go_enter Try.func8, Try.ntmps8
  go_upto_region 1 with (with_reducible apply alA tSec)
  generalize hw1 : World.alloc (World.alloc w _) _ = w1
  have b0 := hid (show Blk w1 w.heap.size 28 (ar 64 s) by rw [← hw1]; exact (Blk.new _ _ _).alloc _)
  have b1 := hid (show Blk w1 (w.heap.size + 1) 28 (ar 64 fun _ => 0) by rw [← hw1]; exact Blk.top rfl (by simp))
  have hb : Below w.heap.size w w1 := by rw [← hw1]; exact ((Below.refl _ _).alloc (Nat.le_refl _) _).alloc (by simp) _
  have bm := hid (show Md w1 g c d from Blk.below HM.out hb hgl)
  have bc := hid (HC.out.more hb)
  have bd := hid (cip_keep HC.out.1 HD.out bc.out.1 bc.out.2)
  clear hw1 hb HM HC HD
  go_wp2_with fail
  refine (made_any g c d w1 bm.out).mono ?_
  rintro e w' ⟨rfl, rfl⟩
  go_wp2_with fail
  refine wp_region_tail (C := Kc w1 c K) 10 (by kernel_rfl) (by kernel_rfl) (by kernel_rfl) ⟨bc.out.1, only_drew (only_refl _ _) (Drew.refl _)⟩ ?_
  simp only [List.take_succ_cons, List.take_zero, List.drop_succ_cons, List.drop_zero]
  apply kldA tSec
  · rfl
  · rfl
  · exact fun w' hw' => (hw'.blk b0.out (by omega)).head
  simp only [Act.put, List.setIfInBounds_toArray, List.set_cons_succ, List.set_cons_zero]
  apply wpK_val
  · rfl
  · intro w' hw'
    go_simp
    first | exact rfl | exact ⟨rfl, hw'⟩
  simp only [Act.put, List.setIfInBounds_toArray, List.set_cons_succ, List.set_cons_zero]
  apply wpK_val
  · rfl
  · intro w' hw'
    go_simp
    first | exact rfl | exact ⟨rfl, hw'⟩
  simp only [Act.put, List.setIfInBounds_toArray, List.set_cons_succ, List.set_cons_zero]
  apply wpK_val
  · rfl
  · intro w' hw'
    go_simp
    obtain ⟨b', hd'⟩ := cip_keep bc.out.1 bd.out hw'.1 hw'.2
    exact (first_any L HL.out n hn g c d b' w' (hw'.blk bm.out hgc.symm) hd').mono fun e w2 h => ⟨h.1, hw'.more h.2⟩
  simp only [Act.put, List.setIfInBounds_toArray, List.set_cons_succ, List.set_cons_zero]
  apply wpK_val
  · rfl
  · intro w' hw'
    go_simp
    first | exact rfl | exact ⟨rfl, hw'⟩
  simp only [Act.put, List.setIfInBounds_toArray, List.set_cons_succ, List.set_cons_zero]
  apply wpK_val
  · rfl
  · intro w' hw'
    go_simp
    first | exact rfl | exact ⟨rfl, hw'⟩
  simp only [Act.put, List.setIfInBounds_toArray, List.set_cons_succ, List.set_cons_zero]
  apply wpK_val
  · rfl
  · intro w' hw'
    go_simp
    first | exact rfl | exact ⟨rfl, hw'⟩
  simp only [Act.put, List.setIfInBounds_toArray, List.set_cons_succ, List.set_cons_zero]
  apply wpK_val
  · rfl
  · intro w' hw'
    have hcell := (show Md w' g c d from hw'.blk bm.out hgc.symm).data
    go_simp
    first | exact rfl | exact ⟨rfl, hw'⟩
  simp only [Act.put, List.setIfInBounds_toArray, List.set_cons_succ, List.set_cons_zero]
  apply wpK_val
  · rfl
  · intro w' hw'
    unfold pt
    simp only [Instr.makeFunc, go_sem, execOp, Sem.run_bind, Sem.run_pure, Result.andThen_ok]
    first | exact ⟨rfl, hw'⟩ | (go_simp; first | exact rfl | exact ⟨rfl, hw'⟩)
  simp only [Act.put, List.setIfInBounds_toArray, List.set_cons_succ, List.set_cons_zero]
  apply wpK_val
  · rfl
  · intro w' hw'
    go_simp
    obtain ⟨b', hc'⟩ := hw'.1
    exact (each_opening K (AesM.sealM L (XtM.tw n)) s HK.out (AesM.seal_bt HL.out) HS.out c b' w' hc').mono fun e w2 h => ⟨h.1, hw'.trans h.2⟩
  simp only [Act.put, List.setIfInBounds_toArray, List.set_cons_succ, List.set_cons_zero]
  refine wpK_nil fun w5 hw5 => ?_
  have x1 := hw5.blk b1.out (by omega)
  have xc := bc.out.trans hw5
  clear b0 b1 bm bc bd hw5
  go_wp2_with ((with_reducible apply stA tSec); rfl; rfl; exact x1)
  apply ret_ar tSec Try.results8
  · rfl
  · rfl
  · exact x1.setRow_same _
  refine ⟨rfl, ?_, grown_row xc.2 (by omega) _⟩
  obtain ⟨b, h1⟩ := xc.1
  exact ⟨b, Blk.setRow_other h1 (by omega) _⟩
end XtP
end Go.Proofs.Ytkcfonlondlmeaa
namespace Go.Proofs.Ytkcfonlondlmeaa
open Go.ChangeShapes Go.WideShapes Go.ChangeAt Go.RowKit
open AesM (Bt Q16)
open AesP (tBk tKey wr_nat Cip cip_lt)
attribute [local go_sem] Gives
section
variable {ops : Array Oper} {Q : Exit → Act → World → Prop} {a : Act} {w : World} {rest : List Oper} {dst : Option Tmp} {ty : TypeId} {pos : String} {after : Array Edge}
theorem bldL {T : TypeId} {parts : Array (Nat × Operand)} {cs : Array Value} (hb : ∀ w, (Instr.build T (parts.map fun (i, x) => (i, a.eval x))).run Try.prog w = .ok (.agg cs) w) (h : wpList Try.prog ops Q rest (a.put dst (.agg cs)) w) :
    wpList Try.prog ops Q (⟨dst, .build T parts, ty, pos, after, none⟩ :: rest) a w := by
  refine wpList_plain rfl fun K hK => ?_
  unfold Oper.wp execOp
  simp only [Sem.run_bind, hb w, Result.andThen_ok, Sem.run_pure]
  exact hK _ _ h
theorem map_one (i : Nat) (v : Value) (a : Act) : (#[(i, Operand.const v)] : Array (Nat × Operand)).map (fun (i, x) => (i, a.eval x)) = #[(i, v)] := by
  simp only [List.map_toArray, List.map_cons, List.map_nil]; rfl
theorem map_none (a : Act) : (#[] : Array (Nat × Operand)).map (fun (i, x) => (i, a.eval x)) = #[] := by
  simp only [List.map_toArray, List.map_nil]
theorem bld_one {T : TypeId} {i : Nat} {v : Value} {cs : Array Value} (hb : ∀ w, (Instr.build T #[(i, v)]).run Try.prog w = .ok (.agg cs) w) (h : wpList Try.prog ops Q rest (a.put dst (.agg cs)) w) :
    wpList Try.prog ops Q (⟨dst, .build T #[(i, .const v)], ty, pos, after, none⟩ :: rest) a w := bldL (fun w => by rw [map_one]; exact hb w) h
theorem bld_none {T : TypeId} {cs : Array Value} (hb : ∀ w, (Instr.build T #[]).run Try.prog w = .ok (.agg cs) w) (h : wpList Try.prog ops Q rest (a.put dst (.agg cs)) w) :
    wpList Try.prog ops Q (⟨dst, .build T #[], ty, pos, after, none⟩ :: rest) a w := bldL (fun w => by rw [map_none]; exact hb w) h
section
variable {C : World → Prop} {Qk : Act → Prop} {gd : Option (Nat × Bool)}
theorem kbld_one {T : TypeId} {i : Nat} {v : Value} {cs : Array Value} (hwt : Region.wanted ⟨dst, .build T #[(i, .const v)], ty, pos, after, gd⟩ (yielded ops a.tmps) = true) (hb : ∀ w, (Instr.build T #[(i, v)]).run Try.prog w = .ok (.agg cs) w)
    (h : wpK Try.prog ops C Qk rest (a.put dst (.agg cs))) : wpK Try.prog ops C Qk (⟨dst, .build T #[(i, .const v)], ty, pos, after, gd⟩ :: rest) a := kbldA hwt (fun w => by rw [map_one]; exact hb w) h
theorem kbld_none {T : TypeId} {cs : Array Value} (hwt : Region.wanted ⟨dst, .build T #[], ty, pos, after, gd⟩ (yielded ops a.tmps) = true) (hb : ∀ w, (Instr.build T #[]).run Try.prog w = .ok (.agg cs) w)
    (h : wpK Try.prog ops C Qk rest (a.put dst (.agg cs))) : wpK Try.prog ops C Qk (⟨dst, .build T #[], ty, pos, after, gd⟩ :: rest) a := kbldA hwt (fun w => by rw [map_none]; exact hb w) h
end
end
namespace XtP
/-- From w1 on: the mode at g, of ciphers of K and L, stands; all blocks but the first cipher stand. -/
def Mo (W w1 : World) (g c d : Nat) (K L : Nat → Nat) (w' : World) : Prop :=
  Md w' g c d ∧ (∃ b, Cip w' c K b) ∧ (∃ b, Cip w' d L b) ∧ W.heap.size ≤ c ∧ (∀ k, k < w1.heap.size → k ≠ c → w'.heap[k]? = w1.heap[k]?) ∧ Below W.heap.size W w' ∧ w1.heap.size ≤ w'.heap.size
section
variable {W w1 w' w2 : World} {g c d n : Nat} {K L s : Nat → Nat}
theorem Mo.blk {k : Nat} {t : TypeId} {cs : Array Value} (h : Mo W w1 g c d K L w') (hb : Blk w1 k t cs) (hk : k ≠ c) : Blk w' k t cs := (h.2.2.2.2.1 k hb.lt hk).trans hb
theorem Mo.base (h : Mo W w1 g c d K L w') : Below W.heap.size W w' := h.2.2.2.2.2.1
theorem Mo.lt (h : Mo W w1 g c d K L w') : c < w'.heap.size := by obtain ⟨b, h1⟩ := h.2.1; exact cip_lt h1
theorem Mo.ne (h : Mo W w1 g c d K L w') : g ≠ c := by obtain ⟨b, h1⟩ := h.2.1; exact (h.1.ne h1).symm
theorem Mo.kc (h : Mo W w1 g c d K L w') (hk : Kc w' c K w2) : Mo W w1 g c d K L w2 :=
  ⟨hk.blk h.1 h.ne, hk.1, cip_keep h.2.1 h.2.2.1 hk.1 hk.2, h.2.2.2.1, fun k hk1 hne => (hk.2.block k (by have := h.2.2.2.2.2.2; omega) (fun e => hne (by injection e))).trans (h.2.2.2.2.1 k hk1 hne),
    h.base.trans (only_Below hk.2 h.2.2.2.1 h.base.size), Nat.le_trans h.2.2.2.2.2.2 hk.2.size⟩
theorem Mo.below (h : Mo W w1 g c d K L w') (hb : Below w'.heap.size w' w2) : Mo W w1 g c d K L w2 := h.kc ((show Kc w' c K w' from ⟨h.2.1, only_refl _ _⟩).more hb)
theorem Mo.drew (h : Mo W w1 g c d K L w') : Mo W w1 g c d K L w'.drew := ⟨h.1, h.2.1, h.2.2.1, h.2.2.2.1, h.2.2.2.2.1, h.base.drew, h.2.2.2.2.2.2⟩
theorem Mo.renew (h : Mo W w1 g c d K L w') : Mo W w' g c d K L w' := ⟨h.1, h.2.1, h.2.2.1, h.2.2.2.1, fun _ _ _ => rfl, h.base, Nat.le_refl _⟩
theorem Mo.alloc (h : Mo W w1 g c d K L w') (o : Obj) : Mo W w1 g c d K L (w'.alloc o) := h.below ((Below.refl _ _).alloc (Nat.le_refl _) _)
theorem Mo.setRow (h : Mo W w1 g c d K L w') {k : Nat} (hk : w1.heap.size ≤ k) (hW : W.heap.size ≤ w1.heap.size) (hg : k ≠ g) (hc : k ≠ c) (hd : k ≠ d) (cs : Array Value) : Mo W w1 g c d K L (w'.setRow k cs) :=
  ⟨Blk.setRow_other h.1 hg _, by obtain ⟨b, h1⟩ := h.2.1; exact ⟨b, Blk.setRow_other h1 hc _⟩, by obtain ⟨b, h1⟩ := h.2.2.1; exact ⟨b, Blk.setRow_other h1 hd _⟩, h.2.2.2.1,
    fun j hj hne => (Go.setRow_other w' k j cs (by omega)).trans (h.2.2.2.2.1 j hj hne), below_setRow h.base (by omega) _, by simpa using h.2.2.2.2.2.2⟩
theorem Mo.setCell (h : Mo W w1 g c d K L w') {p : Addr} (hk : w1.heap.size ≤ p.block) (hW : W.heap.size ≤ w1.heap.size) (hg : p.block ≠ g) (hc : p.block ≠ c) (hd : p.block ≠ d) (v : Value) : Mo W w1 g c d K L (w'.setCell p v) :=
  ⟨Blk.setCell_other h.1 hg _, by obtain ⟨b, h1⟩ := h.2.1; exact ⟨b, Blk.setCell_other h1 hc _⟩, by obtain ⟨b, h1⟩ := h.2.2.1; exact ⟨b, Blk.setCell_other h1 hd _⟩, h.2.2.2.1,
    fun j hj hne => (Below.heap_setCell w' p v j (by omega)).trans (h.2.2.2.2.1 j hj hne), h.base.setCell (by omega) _, by simpa using h.2.2.2.2.2.2⟩
theorem Mo.three (h : Mo W w1 g c d K L w') : g < w'.heap.size ∧ c < w'.heap.size ∧ d < w'.heap.size := by
  obtain ⟨b, h1⟩ := h.2.1
  obtain ⟨b', h2⟩ := h.2.2.1
  exact ⟨h.1.lt, cip_lt h1, cip_lt h2⟩
theorem Mo.double (h : Mo W w1 g c d K L w') {t : Nat → Nat} (ht : Bt t) :
    Calls Try.prog 11 #[.agg (ar 16 t)] w' fun e w2 => e = .returned (.agg (ar 16 (XtM.dbl t))) ∧ Mo W w1 g c d K L w2 := (double_any t ht w').mono fun _ _ ⟨he, hb⟩ => ⟨he, h.below hb⟩
theorem Mo.sealing (h : Mo W w1 g c d K L w') (hK : Bt K) (hL : Bt L) (hs : Bt s) (hn : n < 18446744073709551616) :
    Calls Try.prog 6 #[.pointer (some ⟨g, 0, none⟩), .int .u64 n, .agg (ar 64 s)] w' fun e w2 => e = .returned (.agg (ar 64 (XtM.sect (AesM.sealM K) (AesM.sealM L (XtM.tw n)) s))) ∧ Mo W w1 g c d K L w2 :=
  (sealing_any K L s hK hL hs n hn g c d w' h.1 h.2.1 h.2.2.1).mono fun _ _ ⟨he, hk⟩ => ⟨he, h.kc hk⟩
theorem Mo.opening (h : Mo W w1 g c d K L w') (hK : Bt K) (hL : Bt L) (hs : Bt s) (hn : n < 18446744073709551616) :
    Calls Try.prog 8 #[.pointer (some ⟨g, 0, none⟩), .int .u64 n, .agg (ar 64 s)] w' fun e w2 => e = .returned (.agg (ar 64 (XtM.sect (AesM.open' K) (AesM.sealM L (XtM.tw n)) s))) ∧ Mo W w1 g c d K L w2 :=
  (opening_any K L s hK hL hs n hn g c d w' h.1 h.2.1 h.2.2.1).mono fun _ _ ⟨he, hk⟩ => ⟨he, h.kc hk⟩
theorem Mo.start (hm : Md w' g c d) (hc : ∃ b, Cip w' c K b) (hd : ∃ b, Cip w' d L b) (hW : W.heap.size ≤ c) (hb : Below W.heap.size W w') : Mo W w' g c d K L w' := ⟨hm, hc, hd, hW, fun _ _ _ => rfl, hb, Nat.le_refl _⟩
end
theorem back_sealed {K L s : Nat → Nat} (hK : Bt K) (hL : Bt L) (hs : Bt s) (n j : Nat) : XtM.sect (AesM.open' K) (AesM.sealM L (XtM.tw n)) (XtM.sect (AesM.sealM K) (AesM.sealM L (XtM.tw n)) s) j = s j :=
  XtM.sect_back (fun _ _ h => AesM.open_q h) (fun _ h => AesM.open_seal hK h) (AesM.seal_bt hL) hs j
theorem back_opened {K L s : Nat → Nat} (hK : Bt K) (hL : Bt L) (hs : Bt s) (n j : Nat) : XtM.sect (AesM.sealM K) (AesM.sealM L (XtM.tw n)) (XtM.sect (AesM.open' K) (AesM.sealM L (XtM.tw n)) s) j = s j :=
  XtM.sect_back (fun _ _ h => AesM.seal_q h) (fun _ h => AesM.seal_open hK h) (AesM.seal_bt hL) hs j
theorem sealed_bt {K L s : Nat → Nat} (hK : Bt K) (hL : Bt L) (hs : Bt s) (n : Nat) : Bt (XtM.sect (AesM.sealM K) (AesM.sealM L (XtM.tw n)) s) := XtM.sect_bt (fun _ _ => AesM.seal_bt hK) (AesM.seal_bt hL) hs
theorem opened_bt {K L s : Nat → Nat} (hK : Bt K) (hL : Bt L) (hs : Bt s) (n : Nat) : Bt (XtM.sect (AesM.open' K) (AesM.sealM L (XtM.tw n)) s) := XtM.sect_bt (fun _ _ => AesM.open_bt hK) (AesM.seal_bt hL) hs
end XtP
end Go.Proofs.Ytkcfonlondlmeaa
namespace Go.Proofs.Ytkcfonlondlmeaa
open Go.ChangeShapes Go.WideShapes Go.ChangeAt Go.RowKit Go.Deep
open AesM (Bt Q16)
open AesP (tBk tKey uKey cells_key cells_bk)
namespace XtP
def ksC (k t : Nat → Nat) (n : Nat) (j : Nat) : Value := if j < 32 then .int .u8 (k j : Nat) else if j < 64 then .int .u8 (t (j - 32) : Nat) else .int .u64 n
/-- Two keys and a number. -/
def ksV (k t : Nat → Nat) (n : Nat) : Array Value := row 65 (ksC k t n)
theorem cells_keys : Try.prog.cellsOf 26 = 65 := by kernel_rfl
theorem cells_n64 : Try.prog.cellsOf 24 = 1 := by kernel_rfl
theorem cells_sec : Try.prog.cellsOf 28 = 64 := by kernel_rfl
theorem n64_wf {a : Int} (h : (Lit.int .u64 a).wf = true) : ∃ n : Nat, a = n ∧ n < 18446744073709551616 := by
  simp [Lit.wf, IntKind.min, IntKind.max, IntKind.bits, IntKind.signed] at h
  exact ⟨a.toNat, by omega, by omega⟩
section
variable {H : Type} {enc : TypeId × Value → H} {w : World} {base : Nat} {spare : Nat → Bool} {held : Bool}
theorem list_at {l : List Value} {o m : Nat} {f : Nat → Nat} (h : (l.drop o).take m = (ar m f).toList) {j : Nat} (hj : j < m) : l[o + j]? = some (.int .u8 (f j : Nat)) := by
  have h1 : ((l.drop o).take m)[j]? = some (.int .u8 (f j : Nat)) := by rw [h, Array.getElem?_toList, get_ar hj]
  rwa [List.getElem?_take_of_lt hj, List.getElem?_drop] at h1
set_option maxRecDepth 100000 in
theorem open_keys {r : Reach} {b0 : Nat} {v : Value} {d : DataW H} {p : List MemPlace} (hv : Value.okWide Try.prog w r b0 26 v) (h : DataW.Trod enc Try.prog w base spare held 26 v d p) :
    ∃ (k t : Nat → Nat) (n : Nat), Bt k ∧ Bt t ∧ n < 18446744073709551616 ∧ v = .agg (ksV k t n) := by
  obtain ⟨cs, rfl, hsz⟩ := okWide_struct Try.underlying26 hv
  rw [cells_keys] at hsz
  obtain ⟨fuel, hf⟩ := h
  obtain ⟨y0, y1, y2, m, _, _, h0, h1, h2⟩ := trod_struct3 Try.underlying26 hf
  rw [cells_key] at h0 h1
  rw [cells_n64] at h2
  obtain ⟨k, hk, e0⟩ := trod_ar uKey cells_key h0
  obtain ⟨t, ht, e1⟩ := trod_ar uKey cells_key h1
  obtain ⟨b, e2, _, w1⟩ := DataW.trod_int Try.underlying24 h2
  obtain ⟨n, rfl, hn⟩ := n64_wf w1
  have e0' : (cs.toList.drop 0).take 32 = (ar 32 k).toList := e0
  have e1' : (cs.toList.drop 32).take 32 = (ar 32 t).toList := e1
  have e2' : (cs.toList.drop 64).take 1 = [.int .u64 (n : Nat)] := e2
  refine ⟨k, t, n, hk, ht, hn, ?_⟩
  have e : cs = ksV k t n := by
    apply Array.ext_getElem?
    intro j
    rw [ksV, get_row]
    by_cases hj : j < 65
    · rw [if_pos hj, ← Array.getElem?_toList]
      unfold ksC
      by_cases a : j < 32
      · rw [if_pos a]
        have := list_at e0' a
        rwa [Nat.zero_add] at this
      · rw [if_neg a]
        by_cases b : j < 64
        · rw [if_pos b]
          have := list_at e1' (show j - 32 < 32 by omega)
          rwa [show 32 + (j - 32) = j by omega] at this
        · rw [if_neg b]
          obtain rfl : j = 64 := by omega
          have h3 : ((cs.toList.drop 64).take 1)[0]? = some (.int .u64 (n : Nat)) := by rw [e2']; rfl
          rwa [List.getElem?_take_of_lt (by omega), List.getElem?_drop] at h3
    · rw [if_neg hj, Array.getElem?_eq_none (by omega)]
  rw [e]
end
section
variable {w : World} {g n : Nat} {k t : Nat → Nat} {ty : TypeId}
theorem keys_data (h : Blk w g ty (ksV k t n)) : w.rangeAt g 0 (ar 32 k).toList := fun j v hv => by
  obtain ⟨hj, rfl⟩ := ar_list_get hv
  rw [h.cell, ksV, get_row_lt (by omega), Nat.zero_add]
  unfold ksC
  rw [if_pos hj]
theorem keys_tweak (h : Blk w g ty (ksV k t n)) : w.rangeAt g 32 (ar 32 t).toList := fun j v hv => by
  obtain ⟨hj, rfl⟩ := ar_list_get hv
  rw [h.cell, ksV, get_row_lt (by omega)]
  unfold ksC
  rw [if_neg (by omega), if_pos (by omega), show 32 + j - 32 = j by omega]
theorem keys_num (h : Blk w g ty (ksV k t n)) : w.cell? ⟨g, 64, none⟩ = some (.int .u64 n) := by
  rw [h.cell, ksV, get_row_lt (by omega)]; rfl
end
end XtP
end Go.Proofs.Ytkcfonlondlmeaa
namespace Go.Proofs.Ytkcfonlondlmeaa
namespace XtM
open AesM (Bt Q16 ls)
def k1 : List Nat := [1, 0, 0, 0, 0, 0, 0, 0, 0, 0, 0, 0, 0, 0, 0, 0, 0, 0, 0, 0, 0, 0, 0, 0, 0, 0, 0, 0, 0, 0, 0, 0]
def k2 : List Nat := [2, 0, 0, 0, 0, 0, 0, 0, 0, 0, 0, 0, 0, 0, 0, 0, 0, 0, 0, 0, 0, 0, 0, 0, 0, 0, 0, 0, 0, 0, 0, 0]
def s0 : List Nat := [0, 0, 0, 0, 0, 7, 0, 0, 0, 0, 0, 0, 0, 0, 0, 0, 0, 0, 0, 0, 0, 0, 0, 0, 0, 0, 0, 0, 0, 0, 0, 0, 0, 0, 0, 0, 0, 0, 0, 0, 0, 0, 0, 0, 0, 0, 0, 0, 0, 0, 0, 0, 0, 0, 0, 0, 0, 0, 0, 0, 0, 0, 0, 0]
def wX : List (List Nat) := [[2, 0, 0, 0], [0, 0, 0, 0], [0, 0, 0, 0], [0, 0, 0, 0], [0, 0, 0, 0], [0, 0, 0, 0], [0, 0, 0, 0], [0, 0, 0, 0], [96, 99, 99, 99], [96, 99, 99, 99], [96, 99, 99, 99], [96, 99, 99, 99], [208, 251, 251, 251], [208, 251, 251, 251], [208, 251, 251, 251], [208, 251, 251, 251], [109, 108, 108, 19], [13, 15, 15, 112], [109, 108, 108, 19], [13, 15, 15, 112], [7, 141, 141, 170], [215, 118, 118, 81], [7, 141, 141, 170], [215, 118, 118, 81], [81, 84, 189, 29], [92, 91, 178, 109], [49, 55, 222, 126], [60, 56, 209, 14], [236, 138, 179, 1], [59, 252, 197, 80], [60, 113, 72, 250], [235, 7, 62, 171], [156, 230, 223, 244], [192, 189, 109, 153], [241, 138, 179, 231], [205, 178, 98, 233], [81, 189, 25, 31], [106, 65, 220, 79], [86, 48, 148, 181], [189, 55, 170, 30], [22, 74, 173, 142], [214, 247, 192, 23], [39, 125, 115, 240], [234, 207, 17, 25], [214, 55, 155, 203], [188, 118, 71, 132], [234, 70, 211, 49], [87, 113, 121, 47], [149, 252, 184, 213], [67, 11, 120, 194], [100, 118, 11, 50], [142, 185, 26, 43], [207, 97, 57, 58], [115, 23, 126, 190], [153, 81, 173, 143], [206, 32, 212, 160], [98, 180, 88, 94], [33, 191, 32, 156], [69, 201, 43, 174], [203, 112, 49, 133]]
def sX : List (List Nat) := [[1, 0, 0, 0, 0, 0, 0, 0, 0, 0, 0, 0, 0, 0, 0, 0], [93, 124, 124, 66, 99, 99, 99, 99, 99, 99, 99, 99, 99, 99, 99, 99], [238, 47, 47, 90, 76, 79, 250, 45, 112, 190, 85, 115, 189, 85, 115, 115], [100, 80, 62, 254, 90, 161, 160, 198, 160, 174, 15, 74, 185, 83, 68, 72], [153, 131, 7, 54, 253, 244, 181, 59, 156, 52, 217, 4, 98, 18, 176, 142], [54, 64, 157, 59, 181, 37, 224, 88, 199, 108, 54, 0, 144, 137, 140, 114], [95, 96, 77, 168, 155, 96, 194, 226, 96, 44, 189, 2, 101, 17, 196, 128], [181, 189, 20, 96, 94, 236, 197, 158, 97, 24, 116, 219, 72, 233, 112, 103], [115, 156, 111, 221, 29, 135, 81, 54, 231, 71, 176, 63, 248, 92, 205, 170], [38, 130, 187, 38, 190, 163, 225, 60, 22, 214, 14, 250, 226, 204, 19, 56], [81, 72, 20, 35, 26, 222, 96, 128, 117, 98, 150, 85, 33, 79, 6, 27], [119, 216, 134, 107, 79, 12, 251, 240, 107, 16, 105, 114, 108, 191, 114, 82], [132, 254, 90, 214, 42, 191, 55, 33, 74, 89, 123, 252, 194, 122, 245, 53], [222, 219, 141, 197, 244, 184, 134, 80, 24, 12, 218, 107, 120, 109, 174, 149]]
def wY : List (List Nat) := [[1, 0, 0, 0], [0, 0, 0, 0], [0, 0, 0, 0], [0, 0, 0, 0], [0, 0, 0, 0], [0, 0, 0, 0], [0, 0, 0, 0], [0, 0, 0, 0], [99, 99, 99, 99], [99, 99, 99, 99], [99, 99, 99, 99], [99, 99, 99, 99], [251, 251, 251, 251], [251, 251, 251, 251], [251, 251, 251, 251], [251, 251, 251, 251], [110, 108, 108, 108], [13, 15, 15, 15], [110, 108, 108, 108], [13, 15, 15, 15], [44, 141, 141, 141], [215, 118, 118, 118], [44, 141, 141, 141], [215, 118, 118, 118], [82, 84, 84, 98], [95, 91, 91, 109], [49, 55, 55, 1], [60, 56, 56, 14], [199, 138, 138, 38], [16, 252, 252, 80], [60, 113, 113, 221], [235, 7, 7, 171], [159, 145, 54, 139], [192, 202, 109, 230], [241, 253, 90, 231], [205, 197, 98, 233], [122, 44, 32, 56], [106, 208, 220, 104], [86, 161, 173, 181], [189, 166, 170, 30], [171, 61, 68, 241], [107, 247, 41, 23], [154, 10, 115, 240], [87, 207, 17, 25], [33, 166, 162, 236], [75, 118, 126, 132], [29, 215, 211, 49], [160, 113, 121, 47], [40, 139, 81, 17], [67, 124, 120, 6], [217, 118, 11, 246], [142, 185, 26, 239], [56, 240, 0, 51], [115, 134, 126, 183], [110, 81, 173, 134], [206, 32, 212, 169], [223, 195, 130, 154], [156, 191, 250, 156], [69, 201, 241, 106], [203, 112, 235, 133]]
def sY : List (List Nat) := [[126, 216, 15, 116, 158, 70, 196, 58, 232, 245, 118, 253, 119, 201, 117, 250], [6, 34, 174, 54, 40, 242, 97, 89, 167, 32, 49, 6, 26, 71, 80, 209], [196, 105, 82, 224, 159, 210, 73, 209, 15, 152, 10, 78, 18, 185, 38, 60], [139, 212, 186, 192, 138, 79, 171, 229, 211, 31, 153, 75, 118, 185, 204, 39], [161, 167, 93, 194, 91, 141, 242, 105, 117, 120, 223, 205, 116, 178, 117, 16], [251, 118, 128, 151, 194, 181, 189, 86, 225, 83, 175, 163, 56, 97, 109, 111], [249, 201, 159, 148, 141, 115, 104, 216, 140, 247, 105, 73, 10, 203, 237, 81], [76, 215, 29, 89, 101, 172, 5, 206, 111, 60, 4, 119, 39, 53, 122, 236], [89, 66, 56, 20, 109, 244, 34, 141, 52, 30, 177, 59, 194, 93, 114, 50], [198, 226, 186, 79, 62, 50, 7, 241, 232, 117, 16, 108, 242, 151, 163, 17], [245, 8, 193, 192, 38, 254, 133, 94, 97, 60, 107, 99, 120, 105, 97, 100], [28, 239, 196, 159, 205, 220, 114, 237, 232, 1, 221, 42, 255, 244, 214, 186], [175, 172, 213, 26, 139, 227, 56, 253, 103, 249, 232, 73, 125, 47, 103, 155], [118, 9, 121, 26, 158, 164, 54, 179, 23, 175, 199, 172, 191, 212, 249, 83]]
def three : List Nat := [3, 0, 0, 0, 0, 0, 0, 0, 0, 0, 0, 0, 0, 0, 0, 0]
def fX : List Nat := [127, 216, 15, 116, 158, 70, 196, 58, 232, 245, 118, 253, 119, 201, 117, 250]
def oX : List Nat := [127, 216, 15, 116, 158, 65, 196, 58, 232, 245, 118, 253, 119, 201, 117, 250]
def oY : List Nat := [231, 138, 68, 119, 151, 198, 99, 62, 181, 129, 71, 7, 195, 113, 238, 20]
theorem ex_tweak : Q16 (AesM.sealM (AesM.ks (ls k2)) (ls three)) (ls oX) := AesM.ex_seal (WL := wX) (SL := sX) rfl (by decide +kernel) (by decide +kernel)
theorem ex_block : Q16 (AesM.sealM (AesM.ks (ls k1)) (ls fX)) (ls oY) := AesM.ex_seal (WL := wY) (SL := sY) rfl (by decide +kernel) (by decide +kernel)
theorem tw_three : Q16 (tw 3) (ls three) := by unfold Q16; decide +kernel
theorem fX_at : ∀ i, i < 16 → ls s0 i ^^^ ls oX i = ls fX i := by decide +kernel
theorem ls_bt {l : List Nat} (h : ∀ x ∈ l, x < 256) : Bt (ls l) := fun i => by
  unfold ls
  rw [List.getD_eq_getElem?_getD]
  rcases Nat.lt_or_ge i l.length with ha | ha
  · rw [List.getElem?_eq_getElem ha]; exact h _ (List.getElem_mem ha)
  · rw [List.getElem?_eq_none ha]; decide
theorem k1_bt : Bt (ls k1) := ls_bt (by decide)
theorem k2_bt : Bt (ls k2) := ls_bt (by decide)
theorem s0_bt : Bt (ls s0) := ls_bt (by decide)
theorem sect_first (E : (Nat → Nat) → Nat → Nat) (t s : Nat → Nat) : sect E t s 0 = E (AesM.add (part s 0) t) 0 ^^^ t 0 := rfl
theorem first_not : sect (AesM.sealM (AesM.ks (ls k1))) (AesM.sealM (AesM.ks (ls k2)) (tw 3)) (ls s0) 0 ≠ ls s0 0 := by
  have hT : Q16 (AesM.sealM (AesM.ks (ls k2)) (tw 3)) (ls oX) := (AesM.seal_q tw_three).trans ex_tweak
  rw [sect_first]
  have hF : Q16 (AesM.add (part (ls s0) 0) (AesM.sealM (AesM.ks (ls k2)) (tw 3))) (ls fX) := fun i hi => by
    show ls s0 (16 * 0 + i) ^^^ _ = _
    rw [hT i hi, Nat.mul_zero, Nat.zero_add, fX_at i hi]
  rw [(AesM.seal_q hF).trans ex_block 0 (by omega), hT 0 (by omega)]
  decide
end XtM
end Go.Proofs.Ytkcfonlondlmeaa
namespace Go.Proofs.Ytkcfonlondlmeaa
open Go.ChangeShapes Go.WideShapes Go.ChangeAt Go.RowKit
open AesM (Bt Q16 ls)
open AesP (tBk tKey wr_nat Cip cip_lt)
attribute [local go_sem] Gives
namespace XtP
theorem built_k1 (w : World) : (Instr.build 23 #[(0, .int .u8 1)]).run Try.prog w = .ok (.agg (ar 32 (ls XtM.k1))) w := run_build w _ _ _ (by kernel_rfl)
theorem built_k2 (w : World) : (Instr.build 23 #[(0, .int .u8 2)]).run Try.prog w = .ok (.agg (ar 32 (ls XtM.k2))) w := run_build w _ _ _ (by kernel_rfl)
section
variable {ops : Array Oper} {Q : Exit → Act → World → Prop} {a : Act} {w : World} {rest : List Oper} {dst : Option Tmp} {ty : TypeId} {pos : String} {after : Array Edge}
theorem bld_k1 (h : wpList Try.prog ops Q rest (a.put dst (.agg (ar 32 (ls XtM.k1)))) w) : wpList Try.prog ops Q (⟨dst, .build 23 #[(0, .const (.int .u8 1))], ty, pos, after, none⟩ :: rest) a w := bld_one built_k1 h
theorem bld_k2 (h : wpList Try.prog ops Q rest (a.put dst (.agg (ar 32 (ls XtM.k2)))) w) : wpList Try.prog ops Q (⟨dst, .build 23 #[(0, .const (.int .u8 2))], ty, pos, after, none⟩ :: rest) a w := bld_one built_k2 h
end
def one : List Nat := [1, 0, 0, 0, 0, 0, 0, 0, 0, 0, 0, 0, 0, 0, 0, 0]
def two : List Nat := [2, 0, 0, 0, 0, 0, 0, 0, 0, 0, 0, 0, 0, 0, 0, 0]
theorem one_bt : Bt (ls one) := XtM.ls_bt (by decide)
theorem built_one (w : World) : (Instr.build 35 #[(0, .int .u8 1)]).run Try.prog w = .ok (.agg (ar 16 (ls one))) w := run_build w _ _ _ (by kernel_rfl)
theorem built_two (w : World) : (Instr.build 35 #[(0, .int .u8 2)]).run Try.prog w = .ok (.agg (ar 16 (ls two))) w := run_build w _ _ _ (by kernel_rfl)
theorem dbl_one : ∀ i, i < 16 → XtM.dbl (ls one) i = ls two i := by decide +kernel
theorem s0_row : (ar 64 fun _ => 0).setIfInBounds 5 (.int .u8 7) = ar 64 (ls XtM.s0) := by
  have h := ar_set (n := 64) (k := 5) (v := 7) (f := fun _ => 0)
  rw [show ((.int .u8 7 : Value)) = .int .u8 ((7 : Nat) : Int) from rfl, h]
  refine ar_ext fun j hj => ?_
  have e : ∀ j, j < 64 → (if j = 5 then 7 else 0) = ls XtM.s0 j := by decide +kernel
  exact e j hj
set_option maxHeartbeats 800000 in
set_option maxRecDepth 100000 in
theorem works_any (W : World) :
    Calls Try.prog 10 #[] W fun e w' => e = .returned (.bool true) ∧ Below W.heap.size W w' := by
  go_enter Try.func10, Try.ntmps10
  go_wp2_with (first | (with_reducible apply bld_k1) | (with_reducible apply bld_k2))
  refine (mode_any (ls XtM.k1) (ls XtM.k2) XtM.k1_bt XtM.k2_bt W).mono ?_
  rintro e w1 ⟨g, c, d, rfl, hg, hc, hd, hm, kc, kd, hb⟩
  have km : Mo W w1 g c d (AesM.ks (ls XtM.k1)) (AesM.ks (ls XtM.k2)) w1 := Mo.start hm ⟨_, kc⟩ ⟨_, kd⟩ hc hb
  have hW1 := hb.size
  obtain ⟨lg, lc, ld⟩ := km.three
  have hz : Blk (w1.alloc (.cells (ar 64 fun _ => 0) 28)) w1.heap.size 28 (ar 64 fun _ => 0) := Blk.new _ _ _
  have km2 := km.alloc (.cells (ar 64 fun _ => 0) 28)
  obtain ⟨gs, hgs⟩ : ∃ gs, gs = w1.heap.size := ⟨_, rfl⟩
  rw [← hgs] at lg lc ld
  clear hm kc kd hb km hg hc hd
  have KM2 := hid km2
  clear km2
  go_upto_region 3 with (with_reducible apply alA tSec)
  rw [← hgs] at hz ⊢
  have HGS := hid hgs
  clear hgs
  generalize hw2 : World.alloc _ _ = w2 at hz KM2 ⊢
  have c5 := (hz.cell 5).trans (get_ar (by omega))
  have f5 := hz.frozen 5
  go_upto_region 4 with fail
  have h3 : Blk (w2.setCell ⟨gs, 5, none⟩ (.int .u8 7)) gs 28 (ar 64 (ls XtM.s0)) := by rw [← s0_row]; exact hz.setCell_same 5 _
  have km3 := (KM2.out.setCell (p := ⟨gs, 5, none⟩) (by show w1.heap.size ≤ gs; have := HGS.out; omega) hW1 (by show gs ≠ g; omega) (by show gs ≠ c; omega) (by show gs ≠ d; omega) (.int .u8 7)).renew
  clear hw2 c5 f5 KM2 hz
  generalize World.setCell w2 _ _ = w3 at h3 km3 ⊢
  have hW3 := km3.base.size
  have hs3 := h3.lt
  have KM3 := hid km3
  have H3 := hid h3
  clear km3
  go_wp2_with ((with_reducible apply ldA tSec); rfl; exact h3)
  clear h3
  have hS := KM3.out.sealing (n := 3) (AesM.ks_bt XtM.k1_bt) (AesM.ks_bt XtM.k2_bt) XtM.s0_bt (by omega)
  rw [show ((3 : Nat) : Int) = 3 from rfl] at hS
  refine hS.mono ?_
  rintro e w4 ⟨rfl, km4⟩
  have h4 := hid (km4.blk H3.out (by omega))
  have KM4 := hid km4.renew
  clear km4 KM3 H3
  have hW4 := KM4.out.base.size
  obtain ⟨lg4, lc4, ld4⟩ := KM4.out.three
  have hz : Blk (w4.alloc (.cells (ar 64 fun _ => 0) 28)) w4.heap.size 28 (ar 64 fun _ => 0) := Blk.new _ _ _
  obtain ⟨gx, hgx⟩ : ∃ gx, gx = w4.heap.size := ⟨_, rfl⟩
  have hs4 := h4.out.lt
  have BT := hid (sealed_bt (AesM.ks_bt XtM.k1_bt) (AesM.ks_bt XtM.k2_bt) XtM.s0_bt 3)
  go_upto_region 5 with (first | (with_reducible apply alA tSec) | ((with_reducible apply stA tSec); rfl; rfl; exact hz))
  rw [← hgx] at hz lg4 lc4 ld4 hs4 ⊢
  generalize hw5 : World.setRow _ _ _ = w5
  have b2 := hid (show Blk w5 gs 28 (ar 64 (ls XtM.s0)) by rw [← hw5]; exact (h4.out.alloc _).setRow_other (by omega) _)
  have b3 := hid (show Blk w5 gx 28 (ar 64 (XtM.sect (AesM.sealM (AesM.ks (ls XtM.k1))) (AesM.sealM (AesM.ks (ls XtM.k2)) (XtM.tw 3)) (ls XtM.s0))) by rw [← hw5]; exact hz.setRow_same _)
  have KM := hid (show Mo W w5 g c d (AesM.ks (ls XtM.k1)) (AesM.ks (ls XtM.k2)) w5 by rw [← hw5]; exact ((KM4.out.alloc _).setRow (by omega) hW4 (by omega) (by omega) (by omega) _).renew)
  have n2 : gs ≠ c := by omega
  have n3 : gx ≠ c := by omega
  clear hw5 hz h4 KM4 hgx
  refine wp_region_tail (C := Mo W w5 g c d (AesM.ks (ls XtM.k1)) (AesM.ks (ls XtM.k2))) 17 (by kernel_rfl) (by kernel_rfl) (by kernel_rfl) KM.out.drew ?_
  simp only [List.take_succ_cons, List.take_zero, List.drop_succ_cons, List.drop_zero]
  apply kldA tSec
  · rfl
  · rfl
  · exact fun w' hw' => (hw'.blk b3.out n3).head
  simp only [Act.put, List.setIfInBounds_toArray, List.set_cons_succ, List.set_cons_zero]
  apply kldA tSec
  · rfl
  · rfl
  · exact fun w' hw' => (hw'.blk b2.out n2).head
  simp only [Act.put, List.setIfInBounds_toArray, List.set_cons_succ, List.set_cons_zero]
  apply kneT true uSec eqg_sec
  · rfl
  · rfl
  · rfl
  · exact (by rw [eqA_no fun h => XtM.first_not (h 0 (by omega))]; rfl)
  simp only [Act.put, List.setIfInBounds_toArray, List.set_cons_succ, List.set_cons_zero]
  apply wpK_val
  · rfl
  · intro w' hw'
    go_simp
    first | exact rfl | exact ⟨rfl, hw'⟩
  simp only [Act.put, List.setIfInBounds_toArray, List.set_cons_succ, List.set_cons_zero]
  apply wpK_val
  · rfl
  · intro w' hw'
    go_simp
    first | exact rfl | exact ⟨rfl, hw'⟩
  simp only [Act.put, List.setIfInBounds_toArray, List.set_cons_succ, List.set_cons_zero]
  apply kldA tSec
  · rfl
  · rfl
  · exact fun w' hw' => (hw'.blk b3.out n3).head
  simp only [Act.put, List.setIfInBounds_toArray, List.set_cons_succ, List.set_cons_zero]
  apply wpK_val
  · rfl
  · intro w' hw'
    go_simp
    exact hw'.opening (n := 3) (AesM.ks_bt XtM.k1_bt) (AesM.ks_bt XtM.k2_bt) BT.out (by omega)
  simp only [Act.put, List.setIfInBounds_toArray, List.set_cons_succ, List.set_cons_zero]
  apply kldA tSec
  · rfl
  · rfl
  · exact fun w' hw' => (hw'.blk b2.out n2).head
  simp only [Act.put, List.setIfInBounds_toArray, List.set_cons_succ, List.set_cons_zero]
  apply keqT true uSec eqg_sec
  · rfl
  · rfl
  · rfl
  · exact eqA_yes fun j _ => back_sealed (AesM.ks_bt XtM.k1_bt) (AesM.ks_bt XtM.k2_bt) XtM.s0_bt 3 j
  simp only [Act.put, List.setIfInBounds_toArray, List.set_cons_succ, List.set_cons_zero]
  apply wpK_val
  · rfl
  · intro w' hw'
    go_simp
    first | exact rfl | exact ⟨rfl, hw'⟩
  simp only [Act.put, List.setIfInBounds_toArray, List.set_cons_succ, List.set_cons_zero]
  apply wpK_val
  · rfl
  · intro w' hw'
    go_simp
    first | exact rfl | exact ⟨rfl, hw'⟩
  simp only [Act.put, List.setIfInBounds_toArray, List.set_cons_succ, List.set_cons_zero]
  apply kbld_one (cs := ar 16 (ls one))
  · rfl
  · exact built_one
  simp only [Act.put, List.setIfInBounds_toArray, List.set_cons_succ, List.set_cons_zero]
  apply wpK_val
  · rfl
  · intro w' hw'
    go_simp
    exact hw'.double one_bt
  simp only [Act.put, List.setIfInBounds_toArray, List.set_cons_succ, List.set_cons_zero]
  apply kbld_one (cs := ar 16 (ls two))
  · rfl
  · exact built_two
  simp only [Act.put, List.setIfInBounds_toArray, List.set_cons_succ, List.set_cons_zero]
  apply keqA true
  · rfl
  · rfl
  · rfl
  · exact eqA_yes dbl_one
  simp only [Act.put, List.setIfInBounds_toArray, List.set_cons_succ, List.set_cons_zero]
  apply wpK_val
  · rfl
  · intro w' hw'
    go_simp
    first | exact rfl | exact ⟨rfl, hw'⟩
  simp only [Act.put, List.setIfInBounds_toArray, List.set_cons_succ, List.set_cons_zero]
  apply wpK_val
  · rfl
  · intro w' hw'
    go_simp
    first | exact rfl | exact ⟨rfl, hw'⟩
  simp only [Act.put, List.setIfInBounds_toArray, List.set_cons_succ, List.set_cons_zero]
  refine wpK_nil fun w9 hw9 => ?_
  have rb := hw9.base
  clear b2 b3 KM hw9
  go_wp2_with fail
  go_ret
  exact ⟨rfl, rb⟩
end XtP
end Go.Proofs.Ytkcfonlondlmeaa
namespace Go.Proofs.Ytkcfonlondlmeaa
open Go.ChangeShapes Go.WideShapes Go.ChangeAt Go.RowKit
open AesM (Bt Q16 ls)
open AesP (tBk tKey wr_nat Cip cip_lt)
attribute [local go_sem] Gives
namespace XtP
theorem Mo.working {W w1 w' : World} {g c d : Nat} {K L : Nat → Nat} (h : Mo W w1 g c d K L w') :
    Calls Try.prog 10 #[] w' fun e w2 => e = .returned (.bool true) ∧ Mo W w1 g c d K L w2 := (works_any w').mono fun _ _ ⟨he, hb⟩ => ⟨he, h.below hb⟩
set_option maxHeartbeats 1600000 in
set_option maxRecDepth 100000 in
theorem seals_law (k t : Nat → Nat) (n : Nat) (s : Nat → Nat) (hk : Bt k) (ht : Bt t) (hn : n < 18446744073709551616) (hs : Bt s) (W : World) :
    Calls Try.prog 3 #[.agg (ksV k t n), .agg (ar 64 s)] W fun e w' => e = .returned (.bool true) ∧ Below W.heap.size W w' := by
  have HK := hid hk
  have HT := hid ht
  have HN := hid hn
  have HS := hid hs
  have KK := hid (AesM.ks_bt hk)
  have KT := hid (AesM.ks_bt ht)
  clear hk ht hn hs
  go_enter Try.func3, Try.ntmps3
  go_upto_region 1 with fail
  generalize hw1 : World.alloc (World.alloc W _) _ = w1
  have b0 := hid (show Blk w1 W.heap.size 26 (ksV k t n) by rw [← hw1]; exact (Blk.new _ _ _).alloc _)
  have b1 := hid (show Blk w1 (W.heap.size + 1) 28 (ar 64 s) by rw [← hw1]; exact Blk.top rfl (by simp))
  have hb := hid (show Below W.heap.size W w1 by rw [← hw1]; exact ((Below.refl _ _).alloc (Nat.le_refl _) _).alloc (by simp) _)
  clear hw1
  have hs1 := b1.out.lt
  go_wp2_with (first | ((with_reducible apply ldAm tKey); rfl; exact keys_data b0.out) | ((with_reducible apply ldAm tKey); rfl; exact keys_tweak b0.out))
  refine (mode_any k t HK.out HT.out w1).mono ?_
  rintro e w2 ⟨g, c, d, rfl, hg, hc, hd, hm, kc, kd, h2⟩
  have d0 := hid (b0.out.below h2 b0.out.lt)
  have d1 := hid (b1.out.below h2 b1.out.lt)
  have KM := hid (Mo.start (W := W) hm ⟨_, kc⟩ ⟨_, kd⟩ (Nat.le_trans hb.out.size hc) (hb.out.trans (h2.mono hb.out.size)))
  have n0 : W.heap.size ≠ c := by omega
  have n1 : W.heap.size + 1 ≠ c := by omega
  clear b0 b1 hb hg hc hd hm kc kd h2 hs1
  go_wp2_with fail
  refine wp_region_tail (C := Mo W w2 g c d (AesM.ks k) (AesM.ks t)) 34 (by kernel_rfl) (by kernel_rfl) (by kernel_rfl) KM.out.drew ?_
  simp only [List.take_succ_cons, List.take_zero, List.drop_succ_cons, List.drop_zero]
  apply wpK_val
  · rfl
  · intro w' hw'
    go_simp
    first | exact rfl | exact ⟨rfl, hw'⟩
  simp only [Act.put, List.setIfInBounds_toArray, List.set_cons_succ, List.set_cons_zero]
  apply wpK_val
  · rfl
  · intro w' hw'
    go_simp
    first | exact rfl | exact ⟨rfl, hw'⟩
  simp only [Act.put, List.setIfInBounds_toArray, List.set_cons_succ, List.set_cons_zero]
  apply wpK_val
  · rfl
  · intro w' hw'
    have hcell := keys_num (hw'.blk d0.out n0)
    go_simp
    first | exact rfl | exact ⟨rfl, hw'⟩
  simp only [Act.put, List.setIfInBounds_toArray, List.set_cons_succ, List.set_cons_zero]
  apply kldA tSec
  · rfl
  · rfl
  · exact fun w' hw' => (hw'.blk d1.out n1).head
  simp only [Act.put, List.setIfInBounds_toArray, List.set_cons_succ, List.set_cons_zero]
  apply wpK_val
  · rfl
  · intro w' hw'
    go_simp
    exact hw'.sealing KK.out KT.out HS.out HN.out
  simp only [Act.put, List.setIfInBounds_toArray, List.set_cons_succ, List.set_cons_zero]
  apply wpK_val
  · rfl
  · intro w' hw'
    go_simp
    first | exact rfl | exact ⟨rfl, hw'⟩
  simp only [Act.put, List.setIfInBounds_toArray, List.set_cons_succ, List.set_cons_zero]
  apply kldA tKey
  · rfl
  · rfl
  · exact fun w' hw' => keys_data (hw'.blk d0.out n0)
  simp only [Act.put, List.setIfInBounds_toArray, List.set_cons_succ, List.set_cons_zero]
  apply wpK_val
  · rfl
  · intro w' hw'
    go_simp
    first | exact rfl | exact ⟨rfl, hw'⟩
  simp only [Act.put, List.setIfInBounds_toArray, List.set_cons_succ, List.set_cons_zero]
  apply kldA tKey
  · rfl
  · rfl
  · exact fun w' hw' => keys_tweak (hw'.blk d0.out n0)
  simp only [Act.put, List.setIfInBounds_toArray, List.set_cons_succ, List.set_cons_zero]
  apply wpK_val
  · rfl
  · intro w' hw'
    go_simp
    first | exact rfl | exact ⟨rfl, hw'⟩
  simp only [Act.put, List.setIfInBounds_toArray, List.set_cons_succ, List.set_cons_zero]
  apply wpK_val
  · rfl
  · intro w' hw'
    have hcell := keys_num (hw'.blk d0.out n0)
    go_simp
    first | exact rfl | exact ⟨rfl, hw'⟩
  simp only [Act.put, List.setIfInBounds_toArray, List.set_cons_succ, List.set_cons_zero]
  apply kldA tSec
  · rfl
  · rfl
  · exact fun w' hw' => (hw'.blk d1.out n1).head
  simp only [Act.put, List.setIfInBounds_toArray, List.set_cons_succ, List.set_cons_zero]
  apply wpK_val
  · rfl
  · intro w' hw'
    go_simp
    exact (rsealing_any k t s HK.out HT.out HS.out n HN.out w').mono fun e _ h => ⟨h.1, hw'.below h.2⟩
  simp only [Act.put, List.setIfInBounds_toArray, List.set_cons_succ, List.set_cons_zero]
  apply keqT true uSec eqg_sec
  · rfl
  · rfl
  · rfl
  · exact eqA_yes fun _ _ => rfl
  simp only [Act.put, List.setIfInBounds_toArray, List.set_cons_succ, List.set_cons_zero]
  apply wpK_val
  · rfl
  · intro w' hw'
    go_simp
    first | exact rfl | exact ⟨rfl, hw'⟩
  simp only [Act.put, List.setIfInBounds_toArray, List.set_cons_succ, List.set_cons_zero]
  apply wpK_val
  · rfl
  · intro w' hw'
    go_simp
    first | exact rfl | exact ⟨rfl, hw'⟩
  simp only [Act.put, List.setIfInBounds_toArray, List.set_cons_succ, List.set_cons_zero]
  apply wpK_val
  · rfl
  · intro w' hw'
    go_simp
    first | exact rfl | exact ⟨rfl, hw'⟩
  simp only [Act.put, List.setIfInBounds_toArray, List.set_cons_succ, List.set_cons_zero]
  apply wpK_val
  · rfl
  · intro w' hw'
    have hcell := keys_num (hw'.blk d0.out n0)
    go_simp
    first | exact rfl | exact ⟨rfl, hw'⟩
  simp only [Act.put, List.setIfInBounds_toArray, List.set_cons_succ, List.set_cons_zero]
  apply kldA tSec
  · rfl
  · rfl
  · exact fun w' hw' => (hw'.blk d1.out n1).head
  simp only [Act.put, List.setIfInBounds_toArray, List.set_cons_succ, List.set_cons_zero]
  apply wpK_val
  · rfl
  · intro w' hw'
    go_simp
    exact hw'.opening KK.out KT.out HS.out HN.out
  simp only [Act.put, List.setIfInBounds_toArray, List.set_cons_succ, List.set_cons_zero]
  apply wpK_val
  · rfl
  · intro w' hw'
    go_simp
    first | exact rfl | exact ⟨rfl, hw'⟩
  simp only [Act.put, List.setIfInBounds_toArray, List.set_cons_succ, List.set_cons_zero]
  apply kldA tKey
  · rfl
  · rfl
  · exact fun w' hw' => keys_data (hw'.blk d0.out n0)
  simp only [Act.put, List.setIfInBounds_toArray, List.set_cons_succ, List.set_cons_zero]
  apply wpK_val
  · rfl
  · intro w' hw'
    go_simp
    first | exact rfl | exact ⟨rfl, hw'⟩
  simp only [Act.put, List.setIfInBounds_toArray, List.set_cons_succ, List.set_cons_zero]
  apply kldA tKey
  · rfl
  · rfl
  · exact fun w' hw' => keys_tweak (hw'.blk d0.out n0)
  simp only [Act.put, List.setIfInBounds_toArray, List.set_cons_succ, List.set_cons_zero]
  apply wpK_val
  · rfl
  · intro w' hw'
    go_simp
    first | exact rfl | exact ⟨rfl, hw'⟩
  simp only [Act.put, List.setIfInBounds_toArray, List.set_cons_succ, List.set_cons_zero]
  apply wpK_val
  · rfl
  · intro w' hw'
    have hcell := keys_num (hw'.blk d0.out n0)
    go_simp
    first | exact rfl | exact ⟨rfl, hw'⟩
  simp only [Act.put, List.setIfInBounds_toArray, List.set_cons_succ, List.set_cons_zero]
  apply kldA tSec
  · rfl
  · rfl
  · exact fun w' hw' => (hw'.blk d1.out n1).head
  simp only [Act.put, List.setIfInBounds_toArray, List.set_cons_succ, List.set_cons_zero]
  apply wpK_val
  · rfl
  · intro w' hw'
    go_simp
    exact (ropening_any k t s HK.out HT.out HS.out n HN.out w').mono fun e _ h => ⟨h.1, hw'.below h.2⟩
  simp only [Act.put, List.setIfInBounds_toArray, List.set_cons_succ, List.set_cons_zero]
  apply keqT true uSec eqg_sec
  · rfl
  · rfl
  · rfl
  · exact eqA_yes fun _ _ => rfl
  simp only [Act.put, List.setIfInBounds_toArray, List.set_cons_succ, List.set_cons_zero]
  apply wpK_val
  · rfl
  · intro w' hw'
    go_simp
    first | exact rfl | exact ⟨rfl, hw'⟩
  simp only [Act.put, List.setIfInBounds_toArray, List.set_cons_succ, List.set_cons_zero]
  apply wpK_val
  · rfl
  · intro w' hw'
    go_simp
    first | exact rfl | exact ⟨rfl, hw'⟩
  simp only [Act.put, List.setIfInBounds_toArray, List.set_cons_succ, List.set_cons_zero]
  apply wpK_val
  · rfl
  · intro w' hw'
    go_simp
    exact hw'.working
  simp only [Act.put, List.setIfInBounds_toArray, List.set_cons_succ, List.set_cons_zero]
  apply wpK_val
  · rfl
  · intro w' hw'
    go_simp
    first | exact rfl | exact ⟨rfl, hw'⟩
  simp only [Act.put, List.setIfInBounds_toArray, List.set_cons_succ, List.set_cons_zero]
  apply wpK_val
  · rfl
  · intro w' hw'
    go_simp
    first | exact rfl | exact ⟨rfl, hw'⟩
  simp only [Act.put, List.setIfInBounds_toArray, List.set_cons_succ, List.set_cons_zero]
  refine wpK_nil fun w9 hw9 => ?_
  have rb := hw9.base
  clear d0 d1 KM hw9
  go_wp2_with fail
  go_ret
  exact ⟨rfl, rb⟩
end XtP
end Go.Proofs.Ytkcfonlondlmeaa
