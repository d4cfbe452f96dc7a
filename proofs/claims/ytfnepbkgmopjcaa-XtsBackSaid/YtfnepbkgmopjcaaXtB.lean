/-
  The law XtsBack.
-/
import Derived.Test.YtfnepbkgmopjcaaXtK
import Derived.Test.YtfnepbkgmopjcaaXtW
namespace Go.Proofs.Ytfnepbkgmopjcaa
open Go.ChangeShapes Go.WideShapes Go.ChangeAt Go.RowKit
open AesM (Bt Q16 ls)
open AesP (tBk tKey wr_nat Cip cip_lt)
attribute [local go_sem] Gives
namespace XtP
theorem Mo.works {W w1 w' : World} {g c d : Nat} {K L : Nat → Nat} (h : Mo W w1 g c d K L w') :
    Calls Try.prog 14 #[] w' fun e w2 => e = .returned (.bool true) ∧ Mo W w1 g c d K L w2 := (works_any w').mono fun _ _ ⟨he, hb⟩ => ⟨he, h.below hb⟩
/-- Sectors enciphered are the same just where the sectors are. -/
theorem eqA_sealed {K L f g : Nat → Nat} (hK : Bt K) (hL : Bt L) (hf : Bt f) (hg : Bt g) (n : Nat) :
    eqA 64 (XtM.sect (AesM.sealM K) (AesM.sealM L (XtM.tw n)) f) (XtM.sect (AesM.sealM K) (AesM.sealM L (XtM.tw n)) g) = eqA 64 f g := by
  by_cases h : ∀ j, j < 64 → f j = g j
  · rw [eqA_yes h, eqA_yes fun j hj => XtM.sect_congr (fun _ _ h => AesM.seal_q h) fun i hi => h i (by omega)]
  · rw [eqA_no h, eqA_no fun h2 => h fun j hj => ?_]
    rw [← back_sealed hK hL hf n j, ← back_sealed hK hL hg n j]
    exact XtM.sect_congr (fun _ _ h => AesM.open_q h) fun i hi => h2 i (by omega)
set_option maxHeartbeats 1600000 in
set_option maxRecDepth 100000 in
theorem back_law (k t : Nat → Nat) (n : Nat) (s o : Nat → Nat) (hk : Bt k) (ht : Bt t) (hn : n < 18446744073709551616) (hs : Bt s) (ho : Bt o) (W : World) :
    Calls Try.prog 5 #[.agg (ksV k t n), .agg (ar 64 s), .agg (ar 64 o)] W fun e w' => e = .returned (.bool true) ∧ Below W.heap.size W w' := by
  have HK := hid hk
  have HT := hid ht
  have HN := hid hn
  have HS := hid hs
  have HO := hid ho
  have KK := hid (AesM.ks_bt hk)
  have KT := hid (AesM.ks_bt ht)
  clear hk ht hn hs ho
  go_enter Try.func5, Try.ntmps5
  go_upto_region 1 with fail
  generalize hw1 : World.alloc (World.alloc (World.alloc W _) _) _ = w1
  have b0 := hid (show Blk w1 W.heap.size 26 (ksV k t n) by rw [← hw1]; exact ((Blk.new _ _ _).alloc _).alloc _)
  have b1 := hid (show Blk w1 (W.heap.size + 1) 28 (ar 64 s) by rw [← hw1]; exact (Blk.top rfl (by simp)).alloc _)
  have b2 := hid (show Blk w1 (W.heap.size + 2) 28 (ar 64 o) by rw [← hw1]; exact Blk.top rfl (by simp))
  have hb := hid (show Below W.heap.size W w1 by rw [← hw1]; exact (((Below.refl _ _).alloc (Nat.le_refl _) _).alloc (by simp) _).alloc (by simp; omega) _)
  clear hw1
  have hs1 := b2.out.lt
  go_wp2_with (first | ((with_reducible apply ldAm tKey); rfl; exact keys_data b0.out) | ((with_reducible apply ldAm tKey); rfl; exact keys_tweak b0.out))
  refine (mode_any k t HK.out HT.out w1).mono ?_
  rintro e w2 ⟨g, c, d, rfl, hg, hc, hd, hm, kc, kd, h2⟩
  have d0 := hid (b0.out.below h2 b0.out.lt)
  have d1 := hid (b1.out.below h2 b1.out.lt)
  have d2 := hid (b2.out.below h2 b2.out.lt)
  have KM := hid (Mo.start (W := W) hm ⟨_, kc⟩ ⟨_, kd⟩ (Nat.le_trans hb.out.size hc) (hb.out.trans (h2.mono hb.out.size)))
  have n0 : W.heap.size ≠ c := by omega
  have n1 : W.heap.size + 1 ≠ c := by omega
  have n2 : W.heap.size + 2 ≠ c := by omega
  clear b0 b1 b2 hb hg hc hd hm kc kd h2 hs1
  have q0 := keys_num d0.out
  go_wp2_with ((with_reducible apply ldA tSec); rfl; exact d1.out)
  clear q0
  refine (KM.out.sealing KK.out KT.out HS.out HN.out).mono ?_
  rintro e w3 ⟨rfl, km3⟩
  have e0 := hid (km3.blk d0.out n0)
  have e1 := hid (km3.blk d1.out n1)
  have e2 := hid (km3.blk d2.out n2)
  have hl3 := e2.out.lt
  have KM3 := hid km3.renew
  obtain ⟨lg, lc, ld⟩ := km3.three
  have hW3 := km3.base.size
  have hz : Blk (w3.alloc (.cells (ar 64 fun _ => 0) 28)) w3.heap.size 28 (ar 64 fun _ => 0) := Blk.new _ _ _
  obtain ⟨gx, hgx⟩ : ∃ gx, gx = w3.heap.size := ⟨_, rfl⟩
  have SA := hid (sealed_bt KK.out KT.out HS.out n)
  clear d0 d1 d2 KM km3
  go_upto_region 3 with (first | (with_reducible apply alA tSec) | ((with_reducible apply stA tSec); rfl; rfl; exact hz))
  rw [← hgx] at hz lg lc ld hl3 ⊢
  generalize hw4 : World.setRow _ _ _ = w4
  have d0 := hid (show Blk w4 W.heap.size 26 (ksV k t n) by rw [← hw4]; exact (e0.out.alloc _).setRow_other (by omega) _)
  have d1 := hid (show Blk w4 (W.heap.size + 1) 28 (ar 64 s) by rw [← hw4]; exact (e1.out.alloc _).setRow_other (by omega) _)
  have d2 := hid (show Blk w4 (W.heap.size + 2) 28 (ar 64 o) by rw [← hw4]; exact (e2.out.alloc _).setRow_other (by omega) _)
  have dx := hid (show Blk w4 gx 28 (ar 64 (XtM.sect (AesM.sealM (AesM.ks k)) (AesM.sealM (AesM.ks t) (XtM.tw n)) s)) by rw [← hw4]; exact hz.setRow_same _)
  have KM := hid (show Mo W w4 g c d (AesM.ks k) (AesM.ks t) w4 by rw [← hw4]; exact ((KM3.out.alloc _).setRow (by omega) hW3 (by omega) (by omega) (by omega) _).renew)
  have nx : gx ≠ c := by omega
  have hxW : W.heap.size + 2 < gx := hl3
  clear hw4 hz e0 e1 e2 KM3 hgx lg lc ld hl3 hW3
  have q0 := keys_num d0.out
  obtain ⟨n1', hn1⟩ : ∃ m, m = (n + 1) % 18446744073709551616 := ⟨_, rfl⟩
  have E1 : IntKind.u64.wrap ((n : Int) + 1) = (n1' : Int) := by rw [IntKind.wrap_u64]; omega
  have HN1 := hid (show n1' < 18446744073709551616 by omega)
  clear hn1
  go_wp2_with ((with_reducible apply ldA tSec); rfl; exact d2.out)
  clear q0
  refine (KM.out.sealing KK.out KT.out HO.out HN1.out).mono ?_
  rintro e w5 ⟨rfl, km5⟩
  have e0 := hid (km5.blk d0.out n0)
  have e1 := hid (km5.blk d1.out n1)
  have e2 := hid (km5.blk d2.out n2)
  have ex := hid (km5.blk dx.out nx)
  have KM5 := hid km5.renew
  clear d0 d1 d2 dx KM km5 HN1 E1
  have q0 := keys_num e0.out
  go_wp2_with ((with_reducible apply ldA tSec); rfl; exact e1.out)
  clear q0
  refine (KM5.out.opening KK.out KT.out HS.out HN.out).mono ?_
  rintro e w6 ⟨rfl, km6⟩
  have d0 := hid (km6.blk e0.out n0)
  have d1 := hid (km6.blk e1.out n1)
  have d2 := hid (km6.blk e2.out n2)
  have dx := hid (km6.blk ex.out nx)
  have hl6 := dx.out.lt
  have KM6 := hid km6.renew
  obtain ⟨lg, lc, ld⟩ := km6.three
  have hW6 := km6.base.size
  have hz : Blk (w6.alloc (.cells (ar 64 fun _ => 0) 28)) w6.heap.size 28 (ar 64 fun _ => 0) := Blk.new _ _ _
  obtain ⟨gy, hgy⟩ : ∃ gy, gy = w6.heap.size := ⟨_, rfl⟩
  have SB := hid (opened_bt KK.out KT.out HS.out n)
  clear e0 e1 e2 ex KM5 km6
  go_upto_region 5 with (first | (with_reducible apply alA tSec) | ((with_reducible apply stA tSec); rfl; rfl; exact hz))
  rw [← hgy] at hz lg lc ld hl6 ⊢
  generalize hw7 : World.setRow _ _ _ = w7
  have e0 := hid (show Blk w7 W.heap.size 26 (ksV k t n) by rw [← hw7]; exact (d0.out.alloc _).setRow_other (by omega) _)
  have e1 := hid (show Blk w7 (W.heap.size + 1) 28 (ar 64 s) by rw [← hw7]; exact (d1.out.alloc _).setRow_other (by omega) _)
  have e2 := hid (show Blk w7 (W.heap.size + 2) 28 (ar 64 o) by rw [← hw7]; exact (d2.out.alloc _).setRow_other (by omega) _)
  have ex := hid (show Blk w7 gx 28 (ar 64 (XtM.sect (AesM.sealM (AesM.ks k)) (AesM.sealM (AesM.ks t) (XtM.tw n)) s)) by rw [← hw7]; exact (dx.out.alloc _).setRow_other (by omega) _)
  have ey := hid (show Blk w7 gy 28 (ar 64 (XtM.sect (AesM.open' (AesM.ks k)) (AesM.sealM (AesM.ks t) (XtM.tw n)) s)) by rw [← hw7]; exact hz.setRow_same _)
  have KM7 := hid (show Mo W w7 g c d (AesM.ks k) (AesM.ks t) w7 by rw [← hw7]; exact ((KM6.out.alloc _).setRow (by omega) hW6 (by omega) (by omega) (by omega) _).renew)
  have ny : gy ≠ c := by omega
  clear hw7 hz d0 d1 d2 dx KM6 hgy lg lc ld hl6 hW6
  have q0 := keys_num e0.out
  go_wp2_with ((with_reducible apply ldA tSec); rfl; exact e2.out)
  clear q0
  refine (KM7.out.opening KK.out KT.out HO.out HN.out).mono ?_
  rintro e w8 ⟨rfl, km8⟩
  have d0 := hid (km8.blk e0.out n0)
  have d1 := hid (km8.blk e1.out n1)
  have d2 := hid (km8.blk e2.out n2)
  have dx := hid (km8.blk ex.out nx)
  have dy := hid (km8.blk ey.out ny)
  have KM := hid km8.renew
  clear e0 e1 e2 ex ey KM7 km8
  go_wp2_with fail
  obtain ⟨eq, heq⟩ : ∃ eq, eqA 64 o s = eq := ⟨_, rfl⟩
  have HEQ := hid heq
  clear heq
  refine wp_region_tail (C := Mo W w8 g c d (AesM.ks k) (AesM.ks t)) 42 (by kernel_rfl) (by kernel_rfl) (by kernel_rfl) KM.out.drew ?_
  simp only [List.take_succ_cons, List.take_zero, List.drop_succ_cons, List.drop_zero]
  apply wpK_val
  · rfl
  · intro w' hw'
    go_simp
    first | exact rfl | exact ⟨rfl, hw'⟩
  simp only [Act.put, List.setIfInBounds_toArray, List.set_cons_succ, List.set_cons_zero]
  apply wpK_val
  · rfl
  · intro w' hw'
    go_simp
    first | exact rfl | exact ⟨rfl, hw'⟩
  simp only [Act.put, List.setIfInBounds_toArray, List.set_cons_succ, List.set_cons_zero]
  apply wpK_val
  · rfl
  · intro w' hw'
    have hcell := keys_num (hw'.blk d0.out n0)
    go_simp
    first | exact rfl | exact ⟨rfl, hw'⟩
  simp only [Act.put, List.setIfInBounds_toArray, List.set_cons_succ, List.set_cons_zero]
  apply kldA tSec
  · rfl
  · rfl
  · exact fun w' hw' => (hw'.blk dx.out nx).head
  simp only [Act.put, List.setIfInBounds_toArray, List.set_cons_succ, List.set_cons_zero]
  apply wpK_val
  · rfl
  · intro w' hw'
    go_simp
    exact hw'.opening KK.out KT.out SA.out HN.out
  simp only [Act.put, List.setIfInBounds_toArray, List.set_cons_succ, List.set_cons_zero]
  apply kldA tSec
  · rfl
  · rfl
  · exact fun w' hw' => (hw'.blk d1.out n1).head
  simp only [Act.put, List.setIfInBounds_toArray, List.set_cons_succ, List.set_cons_zero]
  apply keqT true uSec eqg_sec
  · rfl
  · rfl
  · rfl
  · exact eqA_yes fun j _ => back_sealed KK.out KT.out HS.out n j
  simp only [Act.put, List.setIfInBounds_toArray, List.set_cons_succ, List.set_cons_zero]
  apply wpK_val
  · rfl
  · intro w' hw'
    go_simp
    first | exact rfl | exact ⟨rfl, hw'⟩
  simp only [Act.put, List.setIfInBounds_toArray, List.set_cons_succ, List.set_cons_zero]
  apply wpK_val
  · rfl
  · intro w' hw'
    go_simp
    first | exact rfl | exact ⟨rfl, hw'⟩
  simp only [Act.put, List.setIfInBounds_toArray, List.set_cons_succ, List.set_cons_zero]
  apply wpK_val
  · rfl
  · intro w' hw'
    go_simp
    first | exact rfl | exact ⟨rfl, hw'⟩
  simp only [Act.put, List.setIfInBounds_toArray, List.set_cons_succ, List.set_cons_zero]
  apply wpK_val
  · rfl
  · intro w' hw'
    have hcell := keys_num (hw'.blk d0.out n0)
    go_simp
    first | exact rfl | exact ⟨rfl, hw'⟩
  simp only [Act.put, List.setIfInBounds_toArray, List.set_cons_succ, List.set_cons_zero]
  apply kldA tSec
  · rfl
  · rfl
  · exact fun w' hw' => (hw'.blk dy.out ny).head
  simp only [Act.put, List.setIfInBounds_toArray, List.set_cons_succ, List.set_cons_zero]
  apply wpK_val
  · rfl
  · intro w' hw'
    go_simp
    exact hw'.sealing KK.out KT.out SB.out HN.out
  simp only [Act.put, List.setIfInBounds_toArray, List.set_cons_succ, List.set_cons_zero]
  apply kldA tSec
  · rfl
  · rfl
  · exact fun w' hw' => (hw'.blk d1.out n1).head
  simp only [Act.put, List.setIfInBounds_toArray, List.set_cons_succ, List.set_cons_zero]
  apply keqT true uSec eqg_sec
  · rfl
  · rfl
  · rfl
  · exact eqA_yes fun j _ => back_opened KK.out KT.out HS.out n j
  simp only [Act.put, List.setIfInBounds_toArray, List.set_cons_succ, List.set_cons_zero]
  apply wpK_val
  · rfl
  · intro w' hw'
    go_simp
    first | exact rfl | exact ⟨rfl, hw'⟩
  simp only [Act.put, List.setIfInBounds_toArray, List.set_cons_succ, List.set_cons_zero]
  apply wpK_val
  · rfl
  · intro w' hw'
    go_simp
    first | exact rfl | exact ⟨rfl, hw'⟩
  simp only [Act.put, List.setIfInBounds_toArray, List.set_cons_succ, List.set_cons_zero]
  apply wpK_val
  · rfl
  · intro w' hw'
    go_simp
    first | exact rfl | exact ⟨rfl, hw'⟩
  simp only [Act.put, List.setIfInBounds_toArray, List.set_cons_succ, List.set_cons_zero]
  apply wpK_val
  · rfl
  · intro w' hw'
    go_simp
    first | exact rfl | exact ⟨rfl, hw'⟩
  simp only [Act.put, List.setIfInBounds_toArray, List.set_cons_succ, List.set_cons_zero]
  apply wpK_val
  · rfl
  · intro w' hw'
    have hcell := keys_num (hw'.blk d0.out n0)
    go_simp
    first | exact rfl | exact ⟨rfl, hw'⟩
  simp only [Act.put, List.setIfInBounds_toArray, List.set_cons_succ, List.set_cons_zero]
  apply kldA tSec
  · rfl
  · rfl
  · exact fun w' hw' => (hw'.blk d1.out n1).head
  simp only [Act.put, List.setIfInBounds_toArray, List.set_cons_succ, List.set_cons_zero]
  apply wpK_val
  · rfl
  · intro w' hw'
    go_simp
    exact hw'.sealing KK.out KT.out HS.out HN.out
  simp only [Act.put, List.setIfInBounds_toArray, List.set_cons_succ, List.set_cons_zero]
  apply kldA tSec
  · rfl
  · rfl
  · exact fun w' hw' => (hw'.blk dx.out nx).head
  simp only [Act.put, List.setIfInBounds_toArray, List.set_cons_succ, List.set_cons_zero]
  apply keqT true uSec eqg_sec
  · rfl
  · rfl
  · rfl
  · exact eqA_yes fun _ _ => rfl
  simp only [Act.put, List.setIfInBounds_toArray, List.set_cons_succ, List.set_cons_zero]
  apply wpK_val
  · rfl
  · intro w' hw'
    go_simp
    first | exact rfl | exact ⟨rfl, hw'⟩
  simp only [Act.put, List.setIfInBounds_toArray, List.set_cons_succ, List.set_cons_zero]
  apply wpK_val
  · rfl
  · intro w' hw'
    go_simp
    first | exact rfl | exact ⟨rfl, hw'⟩
  simp only [Act.put, List.setIfInBounds_toArray, List.set_cons_succ, List.set_cons_zero]
  apply wpK_val
  · rfl
  · intro w' hw'
    go_simp
    first | exact rfl | exact ⟨rfl, hw'⟩
  simp only [Act.put, List.setIfInBounds_toArray, List.set_cons_succ, List.set_cons_zero]
  apply wpK_val
  · rfl
  · intro w' hw'
    go_simp
    first | exact rfl | exact ⟨rfl, hw'⟩
  simp only [Act.put, List.setIfInBounds_toArray, List.set_cons_succ, List.set_cons_zero]
  apply wpK_val
  · rfl
  · intro w' hw'
    have hcell := keys_num (hw'.blk d0.out n0)
    go_simp
    first | exact rfl | exact ⟨rfl, hw'⟩
  simp only [Act.put, List.setIfInBounds_toArray, List.set_cons_succ, List.set_cons_zero]
  apply kldA tSec
  · rfl
  · rfl
  · exact fun w' hw' => (hw'.blk d2.out n2).head
  simp only [Act.put, List.setIfInBounds_toArray, List.set_cons_succ, List.set_cons_zero]
  apply wpK_val
  · rfl
  · intro w' hw'
    go_simp
    exact hw'.sealing KK.out KT.out HO.out HN.out
  simp only [Act.put, List.setIfInBounds_toArray, List.set_cons_succ, List.set_cons_zero]
  apply kldA tSec
  · rfl
  · rfl
  · exact fun w' hw' => (hw'.blk dx.out nx).head
  simp only [Act.put, List.setIfInBounds_toArray, List.set_cons_succ, List.set_cons_zero]
  apply keqT eq uSec eqg_sec
  · rfl
  · rfl
  · rfl
  · exact (eqA_sealed KK.out KT.out HO.out HS.out n).trans HEQ.out
  simp only [Act.put, List.setIfInBounds_toArray, List.set_cons_succ, List.set_cons_zero]
  apply kldA tSec
  · rfl
  · rfl
  · exact fun w' hw' => (hw'.blk d2.out n2).head
  simp only [Act.put, List.setIfInBounds_toArray, List.set_cons_succ, List.set_cons_zero]
  apply kldA tSec
  · rfl
  · rfl
  · exact fun w' hw' => (hw'.blk d1.out n1).head
  simp only [Act.put, List.setIfInBounds_toArray, List.set_cons_succ, List.set_cons_zero]
  apply keqT eq uSec eqg_sec
  · rfl
  · rfl
  · rfl
  · exact HEQ.out
  simp only [Act.put, List.setIfInBounds_toArray, List.set_cons_succ, List.set_cons_zero]
  apply wpK_val
  · rfl
  · intro w' hw'
    go_simp
    first | exact rfl | exact ⟨rfl, hw'⟩
  simp only [Act.put, List.setIfInBounds_toArray, List.set_cons_succ, List.set_cons_zero]
  apply wpK_val
  · rfl
  · intro w' hw'
    go_simp
    first | exact rfl | exact ⟨rfl, hw'⟩
  simp only [Act.put, List.setIfInBounds_toArray, List.set_cons_succ, List.set_cons_zero]
  apply wpK_val
  · rfl
  · intro w' hw'
    go_simp
    first | exact rfl | exact ⟨rfl, hw'⟩
  simp only [Act.put, List.setIfInBounds_toArray, List.set_cons_succ, List.set_cons_zero]
  apply wpK_val
  · rfl
  · intro w' hw'
    go_simp
    exact hw'.works
  simp only [Act.put, List.setIfInBounds_toArray, List.set_cons_succ, List.set_cons_zero]
  apply wpK_val
  · rfl
  · intro w' hw'
    go_simp
    first | exact rfl | exact ⟨rfl, hw'⟩
  simp only [Act.put, List.setIfInBounds_toArray, List.set_cons_succ, List.set_cons_zero]
  apply wpK_val
  · rfl
  · intro w' hw'
    go_simp
    first | exact rfl | exact ⟨rfl, hw'⟩
  simp only [Act.put, List.setIfInBounds_toArray, List.set_cons_succ, List.set_cons_zero]
  refine wpK_nil fun w9 hw9 => ?_
  have rb := hw9.base
  clear d0 d1 d2 dx dy KM hw9
  go_wp2_with fail
  go_ret
  exact ⟨rfl, rb⟩
end XtP
end Go.Proofs.Ytfnepbkgmopjcaa
