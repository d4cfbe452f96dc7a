/-
  The law BoxTold.
  The law BoxKnown.
-/
import Derived.Test.YtdfoehcdabmagaaDoorMrg7
set_option linter.unusedVariables false
set_option linter.unusedSimpArgs false
set_option maxRecDepth 100000
namespace Go.Proofs.YtdfoehcdabmagaaDoor
open Go.ChangeShapes Go.WideShapes Go.ChangeAt Go.RowKit
open DvP (tK tT sub uK eqg_key sub_any)
attribute [local go_sem] Gives GivesE
namespace BxP
theorem put_duo (f g D : Nat → Nat) : ar 64 (putA 0 32 (duo f g) D) = ar 64 (duo D g) := ar_ext fun j hj => by
  unfold putA duo
  by_cases h : j < 32
  · rw [if_pos (by omega), if_pos h, Nat.sub_zero]
  · rw [if_neg (by omega), if_neg h, if_neg h]
theorem built_k0 (w : World) : (Instr.build 23 #[]).run Tryd.prog w = .ok (.agg (ar 32 fun _ => 0)) w := run_build w _ _ _ (by kernel_rfl)
theorem eqA_symm {n : Nat} {f g : Nat → Nat} : eqA n f g = eqA n g f := by
  cases h : eqA n g f with
  | true => exact eqA_yes fun i hi => ((eqA_iff.1 h) i hi).symm
  | false => exact eqA_no fun h2 => by rw [eqA_yes fun i hi => (h2 i hi).symm] at h; cases h
theorem tagB_congr {k f D : Nat → Nat} {s : ByteArray} {n : Nat} (h : ∀ i, i < 32 → f i = D i) : tagB k s n f = tagB k s n D := by
  unfold tagB rowK
  rw [HmM.dl_congr h]
set_option maxHeartbeats 3200000 in
set_option maxRecDepth 100000 in
theorem told_law (hC : BoxC) (k x f g : Nat → Nat) (hk : ∀ i, k i < 256) (hx : ∀ i, x i < 256) (hf : ∀ i, f i < 256) (hg : ∀ i, g i < 256) (s : ByteArray) (n : Nat) (hn : n < 18446744073709551616) (W : World) (hS : Salts W) :
    Calls Tryd.prog 6 #[.agg (byV k s n), .agg (ar 32 x), .agg (ar 64 (duo f g))] W fun e w' => e = .returned (.bool true) ∧ Below W.heap.size W w' := by
  have HC := hid hC
  have HK := hid hk
  have HX := hid hx
  have HF := hid hf
  have HG := hid hg
  have HN := hid hn
  have SA := hid hS
  have HL := hid (cut100_size s)
  have hlab := hid (lab_size (cut100_size s) (show wSeal.size ≤ 6 by decide) hn)
  obtain ⟨D, hD⟩ : ∃ D, D = xorF x (pad k (cut100 s) n) := ⟨_, rfl⟩
  obtain ⟨G, hG⟩ : ∃ G, G = tagB k (cut100 s) n D := ⟨_, rfl⟩
  have HBD := hid (show boxF k (cut100 s) n x = duo D G by rw [hG, hD]; rfl)
  have HDl := hid (show ∀ i, D i < 256 by rw [hD]; exact xorF_lt HX.out (sub_lt _ _))
  have HGl := hid (show ∀ i, G i < 256 by rw [hG]; exact tagB_lt _ _ _ _)
  have HXB := hid (show xorF D (pad k (cut100 s) n) = x by rw [hD]; exact xor_back _ _)
  have HGt := hid hG
  obtain ⟨b1t, hb1t⟩ : ∃ q, eqA 32 (tagB k (cut100 s) n D) g = q := ⟨_, rfl⟩
  obtain ⟨b2t, hb2t⟩ : ∃ q, eqA 32 (tagB k (cut100 s) n f) G = q := ⟨_, rfl⟩
  obtain ⟨bd, hbd⟩ : ∃ q, eqA 32 f D = q := ⟨_, rfl⟩
  have H1t := hid hb1t
  have H2t := hid hb2t
  have HBDt := hid hbd
  have H1s := hid (show eqA 32 g G = b1t by rw [eqA_symm, hG]; exact hb1t)
  obtain ⟨E1, hE1⟩ : ∃ E : Int, E = (if b1t then 0 else 12) := ⟨_, rfl⟩
  obtain ⟨E2, hE2⟩ : ∃ E : Int, E = (if b2t then 0 else 12) := ⟨_, rfl⟩
  obtain ⟨K1, hK1⟩ : ∃ K, K = (if b1t then xorF D (pad k (cut100 s) n) else fun _ => 0) := ⟨_, rfl⟩
  obtain ⟨K2, hK2⟩ : ∃ K, K = (if b2t then xorF f (pad k (cut100 s) n) else fun _ => 0) := ⟨_, rfl⟩
  have HE1 := hid hE1
  have HE2 := hid hE2
  have HK1 := hid hK1
  have HK2 := hid hK2
  have HE1b := hid (show (E1 == 0) = b1t by rw [hE1]; cases b1t <;> rfl)
  clear hC hk hx hf hg hn hS hD hG hb1t hb2t hbd hE1 hE2 hK1 hK2
  go_enter Tryd.func6, Tryd.ntmps6
  go_upto_region 1 with fail
  generalize hw1 : World.alloc (World.alloc (World.alloc W _) _) _ = w1
  have b0 := hid (show Blk w1 W.heap.size 26 (byV k s n) by rw [← hw1]; exact ((Blk.new _ _ _).alloc _).alloc _)
  have b1 := hid (show Blk w1 (W.heap.size + 1) 23 (ar 32 x) by rw [← hw1]; exact (Blk.top rfl (by simp)).alloc _)
  have b2 := hid (show Blk w1 (W.heap.size + 1 + 1) 29 (ar 64 (duo f g)) by rw [← hw1]; exact Blk.top rfl (by simp))
  have hb := hid (show Below W.heap.size W w1 by rw [← hw1]; exact (((Below.refl _ _).alloc (Nat.le_refl _) _).alloc (by simp) _).alloc (by simp; omega) _)
  have sa := hid (SA.out.on hb.out)
  clear hw1 SA
  refine wp_region_new1 (C := fun w' => Below w1.heap.size w1 w') 8 29 (ar 64 fun _ => 0) 7 rfl (by kernel_rfl) (by kernel_rfl) (by kernel_rfl) (run_alloc_ar tBox) (Below.refl _ _).drew (fun w' hw' => hw'.alloc hw'.size _) (fun w' hw' => hw'.size) ?_
  simp only [List.take_succ_cons, List.take_zero, List.drop_succ_cons, List.drop_zero]
  apply wpB_val
  · rfl
  · intro w' hw'
    have hbl := Below.refl w'.heap.size w'
    go_simp
    first | exact rfl | exact ⟨rfl, hbl⟩ | exact ⟨rfl, hw', hbl⟩
  simp only [Act.put, List.setIfInBounds_toArray, List.set_cons_succ, List.set_cons_zero]
  apply bldA tK
  · rfl
  · rfl
  · exact fun w' hw' => by_key (b0.out.below hw' b0.out.lt)
  simp only [Act.put, List.setIfInBounds_toArray, List.set_cons_succ, List.set_cons_zero]
  apply bldR (tBy' k s n)
  · rfl
  · rfl
  · exact fun w' hw' => (b0.out.below hw' b0.out.lt).whole
  simp only [Act.put, List.setIfInBounds_toArray, List.set_cons_succ, List.set_cons_zero]
  apply wpB_val
  · rfl
  · intro w' hw'
    go_simp
    exact (label_any k s n w').mono fun e w2 h => ⟨h.1, hw'.trans (h.2.mono hw'.size), h.2⟩
  simp only [Act.put, List.setIfInBounds_toArray, List.set_cons_succ, List.set_cons_zero]
  apply wpB_val
  · rfl
  · intro w' hw'
    have hbl := Below.refl w'.heap.size w'
    go_simp
    first | exact rfl | exact ⟨rfl, hbl⟩ | exact ⟨rfl, hw', hbl⟩
  simp only [Act.put, List.setIfInBounds_toArray, List.set_cons_succ, List.set_cons_zero]
  apply wpB_val
  · rfl
  · intro w' hw'
    have hbl := Below.refl w'.heap.size w'
    have h1 : w'.cell? ⟨W.heap.size, 33, none⟩ = some (.int .u64 n) := by_num (b0.out.below hw' b0.out.lt)
    go_simp
    first | exact rfl | exact ⟨rfl, hbl⟩ | exact ⟨rfl, hw', hbl⟩
  simp only [Act.put, List.setIfInBounds_toArray, List.set_cons_succ, List.set_cons_zero]
  apply bldA tK
  · rfl
  · rfl
  · exact fun w' hw' => (b1.out.below hw' b1.out.lt).head
  simp only [Act.put, List.setIfInBounds_toArray, List.set_cons_succ, List.set_cons_zero]
  apply wpB_val
  · rfl
  · intro w' hw'
    go_simp
    exact (HC.out.wrap k x HK.out HX.out (cut100 s) HL.out n HN.out w' (sa.out.on hw')).mono fun e w2 h => ⟨h.1, hw'.trans (h.2.mono hw'.size), h.2⟩
  simp only [Act.put, List.setIfInBounds_toArray, List.set_cons_succ, List.set_cons_zero]
  rw [HBD.out]
  refine wpB_nil fun ga w2a hw2 qp hgp => ?_
  unfold ptr
  go_upto_region 2 with ((with_reducible apply stA tBox); rfl; rfl; exact qp)
  have hbe := hid (show Below w1.heap.size w1 (w2a.setRow ga (ar 64 (duo D G))) from below_setRow hw2 hgp _)
  have qn := hid (qp.setRow_same (ar 64 (duo D G)))
  generalize w2a.setRow ga (ar 64 (duo D G)) = w2 at hbe qn ⊢
  clear hw2 qp hgp
  have hb_1 := hid (hb.out.trans (hbe.out.mono hb.out.size))
  have sa_1 := hid (sa.out.on hbe.out)
  have b0_1 := hid (b0.out.below hbe.out b0.out.lt)
  have b1_1 := hid (b1.out.below hbe.out b1.out.lt)
  have b2_1 := hid (b2.out.below hbe.out b2.out.lt)
  clear hb sa b0 b1 b2
  clear hbe
  have gab := qn
  clear qn
  have hz : Blk (w2.alloc (.cells (ar 64 fun _ => 0) 29)) w2.heap.size 29 (ar 64 fun _ => 0) := Blk.new _ _ _
  obtain ⟨gs, hgn⟩ : ∃ gs, gs = w2.heap.size := ⟨_, rfl⟩
  go_upto_region 3 with (first | ((with_reducible apply ldA tBox); rfl; exact b2_1.out) | (with_reducible apply alA tBox) | ((with_reducible apply stA tBox); rfl; rfl; exact hz))
  rw [← hgn] at hz ⊢
  have hbe := hid (show Below w2.heap.size w2 ((w2.alloc (.cells (ar 64 fun _ => 0) 29)).setRow gs (ar 64 (duo f g))) from below_setRow ((Below.refl _ _).alloc (Nat.le_refl _) _) (by omega) _)
  have qs := hid (hz.setRow_same (ar 64 (duo f g)))
  generalize (w2.alloc (.cells (ar 64 fun _ => 0) 29)).setRow gs (ar 64 (duo f g)) = w3a at hbe qs ⊢
  have qd := hid (gab.out.below hbe.out gab.out.lt)
  have hgl : w2.heap.size ≤ gs := by omega
  clear hz hgn
  go_upto_region 4 with (first | ((with_reducible apply ldAm tK); rfl; exact duo_at0 qd.out) | ((with_reducible apply stArM tK); rfl; rfl; exact qs.out; decide))
  obtain ⟨qp, hp⟩ := qs.out.arPut (h := D) (o := 0) (m := 32) (by omega)
  rw [put_duo] at qp
  have hbf := hid (hbe.out.trans (hp.mono hgl))
  have qn := hid qp
  generalize w3a.setCells gs 0 (ar 32 D).toList = w3 at hbf qn ⊢
  clear hbe qs qd qp hp hgl
  have hb_2 := hid (hb_1.out.trans (hbf.out.mono hb_1.out.size))
  have sa_2 := hid (sa_1.out.on hbf.out)
  have b0_2 := hid (b0_1.out.below hbf.out b0_1.out.lt)
  have b1_2 := hid (b1_1.out.below hbf.out b1_1.out.lt)
  have b2_2 := hid (b2_1.out.below hbf.out b2_1.out.lt)
  have ga_2 := hid (gab.out.below hbf.out gab.out.lt)
  clear hb_1 sa_1 b0_1 b1_1 b2_1 gab
  clear hbf
  have gsb := qn
  clear qn
  refine wp_region_newst (C := fun w' => Below w3.heap.size w3 w') 11 23 (ar 32 fun _ => 0) (ar 32 K1) 9 rfl rfl (by kernel_rfl) (by kernel_rfl) (by kernel_rfl) (by kernel_rfl) (run_alloc_ar tK) (fun _ _ hb => run_st_ar tK hb K1) (Below.refl _ _).drew (fun w' hw' => hw'.alloc hw'.size _) (fun w' hw' => hw'.size) (fun w' g hw' hg => below_setRow hw' hg _) ?_
  simp only [List.take_succ_cons, List.take_zero, List.drop_succ_cons, List.drop_zero]
  apply wpB_val
  · rfl
  · intro w' hw'
    have hbl := Below.refl w'.heap.size w'
    go_simp
    first | exact rfl | exact ⟨rfl, hbl⟩ | exact ⟨rfl, hw', hbl⟩
  simp only [Act.put, List.setIfInBounds_toArray, List.set_cons_succ, List.set_cons_zero]
  apply bldA tK
  · rfl
  · rfl
  · exact fun w' hw' => by_key (b0_2.out.below hw' b0_2.out.lt)
  simp only [Act.put, List.setIfInBounds_toArray, List.set_cons_succ, List.set_cons_zero]
  apply bldR (tBy' k s n)
  · rfl
  · rfl
  · exact fun w' hw' => (b0_2.out.below hw' b0_2.out.lt).whole
  simp only [Act.put, List.setIfInBounds_toArray, List.set_cons_succ, List.set_cons_zero]
  apply wpB_val
  · rfl
  · intro w' hw'
    go_simp
    exact (label_any k s n w').mono fun e w2 h => ⟨h.1, hw'.trans (h.2.mono hw'.size), h.2⟩
  simp only [Act.put, List.setIfInBounds_toArray, List.set_cons_succ, List.set_cons_zero]
  apply wpB_val
  · rfl
  · intro w' hw'
    have hbl := Below.refl w'.heap.size w'
    go_simp
    first | exact rfl | exact ⟨rfl, hbl⟩ | exact ⟨rfl, hw', hbl⟩
  simp only [Act.put, List.setIfInBounds_toArray, List.set_cons_succ, List.set_cons_zero]
  apply wpB_val
  · rfl
  · intro w' hw'
    have hbl := Below.refl w'.heap.size w'
    have h1 : w'.cell? ⟨W.heap.size, 33, none⟩ = some (.int .u64 n) := by_num (b0_2.out.below hw' b0_2.out.lt)
    go_simp
    first | exact rfl | exact ⟨rfl, hbl⟩ | exact ⟨rfl, hw', hbl⟩
  simp only [Act.put, List.setIfInBounds_toArray, List.set_cons_succ, List.set_cons_zero]
  apply bldA tBox
  · rfl
  · rfl
  · exact fun w' hw' => (gsb.out.below hw' gsb.out.lt).head
  simp only [Act.put, List.setIfInBounds_toArray, List.set_cons_succ, List.set_cons_zero]
  apply wpB_val
  · rfl
  · intro w' hw'
    go_simp
    exact (HC.out.unwrap k D g HK.out HDl.out HG.out (cut100 s) HL.out n HN.out _ H1t.out w' (sa_2.out.on hw')).mono fun e w2 h => ⟨h.1, hw'.trans (h.2.mono hw'.size), h.2⟩
  simp only [Act.put, List.setIfInBounds_toArray, List.set_cons_succ, List.set_cons_zero]
  rw [← HK1.out, ← HE1.out]
  apply wpB_val
  · rfl
  · intro w' hw'
    have hbl := Below.refl w'.heap.size w'
    go_simp
    first | exact rfl | exact ⟨rfl, hbl⟩ | exact ⟨rfl, hw', hbl⟩
  simp only [Act.put, List.setIfInBounds_toArray, List.set_cons_succ, List.set_cons_zero]
  apply wpB_val
  · rfl
  · intro w' hw'
    have hbl := Below.refl w'.heap.size w'
    go_simp
    first | exact rfl | exact ⟨rfl, hbl⟩ | exact ⟨rfl, hw', hbl⟩
  simp only [Act.put, List.setIfInBounds_toArray, List.set_cons_succ, List.set_cons_zero]
  apply wpB_val
  · rfl
  · intro w' hw'
    have hbl := Below.refl w'.heap.size w'
    go_simp
    first | exact rfl | exact ⟨rfl, hbl⟩ | exact ⟨rfl, hw', hbl⟩
  simp only [Act.put, List.setIfInBounds_toArray, List.set_cons_succ, List.set_cons_zero]
  refine wpB_nil ⟨fun _ => ⟨rfl, rfl⟩, fun gk w4 hw2 qp hgp => ?_⟩
  unfold ptr
  go_upto_region 5 with fail
  have qn := hid qp
  clear qp hgp
  have hb_3 := hid (hb_2.out.trans (hw2.mono hb_2.out.size))
  have sa_3 := hid (sa_2.out.on hw2)
  have b0_3 := hid (b0_2.out.below hw2 b0_2.out.lt)
  have b1_3 := hid (b1_2.out.below hw2 b1_2.out.lt)
  have b2_3 := hid (b2_2.out.below hw2 b2_2.out.lt)
  have ga_3 := hid (ga_2.out.below hw2 ga_2.out.lt)
  have gs_3 := hid (gsb.out.below hw2 gsb.out.lt)
  clear hb_2 sa_2 b0_2 b1_2 b2_2 ga_2 gsb
  clear hw2
  have gkb := qn
  clear qn
  refine wp_region_fixed (C := fun w' => Below w4.heap.size w4 w') 8 (Below.refl _ _) ?_
  simp only [List.take_succ_cons, List.take_zero, List.drop_succ_cons, List.drop_zero]
  apply wpK_val
  · rfl
  · intro w' hw'
    go_simp
    first | exact rfl | exact ⟨rfl, hw'⟩
  simp only [Act.put, List.setIfInBounds_toArray, List.set_cons_succ, List.set_cons_zero]
  apply wpK_val
  · rfl
  · intro w' hw'
    have h1 : (E1 == 0) = b1t := HE1b.out
    go_simp
    first | exact rfl | exact ⟨rfl, hw'⟩
  simp only [Act.put, List.setIfInBounds_toArray, List.set_cons_succ, List.set_cons_zero]
  apply wpK_val
  · rfl
  · intro w' hw'
    go_simp
    first | exact rfl | exact ⟨rfl, hw'⟩
  simp only [Act.put, List.setIfInBounds_toArray, List.set_cons_succ, List.set_cons_zero]
  apply kldA tT
  · rfl
  · rfl
  · exact fun w' hw' => duo_at1 (gs_3.out.below hw' gs_3.out.lt)
  simp only [Act.put, List.setIfInBounds_toArray, List.set_cons_succ, List.set_cons_zero]
  apply wpK_val
  · rfl
  · intro w' hw'
    go_simp
    first | exact rfl | exact ⟨rfl, hw'⟩
  simp only [Act.put, List.setIfInBounds_toArray, List.set_cons_succ, List.set_cons_zero]
  apply kldA tT
  · rfl
  · rfl
  · exact fun w' hw' => duo_at1 (ga_3.out.below hw' ga_3.out.lt)
  simp only [Act.put, List.setIfInBounds_toArray, List.set_cons_succ, List.set_cons_zero]
  apply keqU b1t uTag eqg_tag
  · rfl
  · rfl
  · rfl
  · exact H1s.out
  simp only [Act.put, List.setIfInBounds_toArray, List.set_cons_succ, List.set_cons_zero]
  apply wpK_val
  · rfl
  · intro w' hw'
    go_simp
    first | exact rfl | exact ⟨rfl, hw'⟩
  simp only [Act.put, List.setIfInBounds_toArray, List.set_cons_succ, List.set_cons_zero]
  refine wpK_nil fun w5 hw5 => ?_
  have hb_4 := hid (hb_3.out.trans (hw5.mono hb_3.out.size))
  have sa_4 := hid (sa_3.out.on hw5)
  have b0_4 := hid (b0_3.out.below hw5 b0_3.out.lt)
  have b1_4 := hid (b1_3.out.below hw5 b1_3.out.lt)
  have b2_4 := hid (b2_3.out.below hw5 b2_3.out.lt)
  have ga_4 := hid (ga_3.out.below hw5 ga_3.out.lt)
  have gs_4 := hid (gs_3.out.below hw5 gs_3.out.lt)
  have gk_4 := hid (gkb.out.below hw5 gkb.out.lt)
  clear hb_3 sa_3 b0_3 b1_3 b2_3 ga_3 gs_3 gkb
  clear hw5
  go_upto_region 7 with fail
  have hz : Blk (w5.alloc (.cells (ar 64 fun _ => 0) 29)) w5.heap.size 29 (ar 64 fun _ => 0) := Blk.new _ _ _
  obtain ⟨gt, hgn⟩ : ∃ gt, gt = w5.heap.size := ⟨_, rfl⟩
  go_upto_region 8 with (first | ((with_reducible apply ldA tBox); rfl; exact ga_4.out) | (with_reducible apply alA tBox) | ((with_reducible apply stA tBox); rfl; rfl; exact hz))
  rw [← hgn] at hz ⊢
  have hbe := hid (show Below w5.heap.size w5 ((w5.alloc (.cells (ar 64 fun _ => 0) 29)).setRow gt (ar 64 (duo D G))) from below_setRow ((Below.refl _ _).alloc (Nat.le_refl _) _) (by omega) _)
  have qs := hid (hz.setRow_same (ar 64 (duo D G)))
  generalize (w5.alloc (.cells (ar 64 fun _ => 0) 29)).setRow gt (ar 64 (duo D G)) = w6a at hbe qs ⊢
  have qd := hid (b2_4.out.below hbe.out b2_4.out.lt)
  have hgl : w5.heap.size ≤ gt := by omega
  clear hz hgn
  go_upto_region 9 with (first | ((with_reducible apply ldAm tK); rfl; exact duo_at0 qd.out) | ((with_reducible apply stArM tK); rfl; rfl; exact qs.out; decide))
  obtain ⟨qp, hp⟩ := qs.out.arPut (h := f) (o := 0) (m := 32) (by omega)
  rw [put_duo] at qp
  have hbf := hid (hbe.out.trans (hp.mono hgl))
  have qn := hid qp
  generalize w6a.setCells gt 0 (ar 32 f).toList = w6 at hbf qn ⊢
  clear hbe qs qd qp hp hgl
  have hb_5 := hid (hb_4.out.trans (hbf.out.mono hb_4.out.size))
  have sa_5 := hid (sa_4.out.on hbf.out)
  have b0_5 := hid (b0_4.out.below hbf.out b0_4.out.lt)
  have b1_5 := hid (b1_4.out.below hbf.out b1_4.out.lt)
  have b2_5 := hid (b2_4.out.below hbf.out b2_4.out.lt)
  have ga_5 := hid (ga_4.out.below hbf.out ga_4.out.lt)
  have gs_5 := hid (gs_4.out.below hbf.out gs_4.out.lt)
  have gk_5 := hid (gk_4.out.below hbf.out gk_4.out.lt)
  clear hb_4 sa_4 b0_4 b1_4 b2_4 ga_4 gs_4 gk_4
  clear hbf
  have gtb := qn
  clear qn
  refine wp_region_newst (C := fun w' => Below w6.heap.size w6 w') 11 23 (ar 32 fun _ => 0) (ar 32 K2) 12 rfl rfl (by kernel_rfl) (by kernel_rfl) (by kernel_rfl) (by kernel_rfl) (run_alloc_ar tK) (fun _ _ hb => run_st_ar tK hb K2) (Below.refl _ _).drew (fun w' hw' => hw'.alloc hw'.size _) (fun w' hw' => hw'.size) (fun w' g hw' hg => below_setRow hw' hg _) ?_
  simp only [List.take_succ_cons, List.take_zero, List.drop_succ_cons, List.drop_zero]
  apply wpB_val
  · rfl
  · intro w' hw'
    have hbl := Below.refl w'.heap.size w'
    go_simp
    first | exact rfl | exact ⟨rfl, hbl⟩ | exact ⟨rfl, hw', hbl⟩
  simp only [Act.put, List.setIfInBounds_toArray, List.set_cons_succ, List.set_cons_zero]
  apply bldA tK
  · rfl
  · rfl
  · exact fun w' hw' => by_key (b0_5.out.below hw' b0_5.out.lt)
  simp only [Act.put, List.setIfInBounds_toArray, List.set_cons_succ, List.set_cons_zero]
  apply bldR (tBy' k s n)
  · rfl
  · rfl
  · exact fun w' hw' => (b0_5.out.below hw' b0_5.out.lt).whole
  simp only [Act.put, List.setIfInBounds_toArray, List.set_cons_succ, List.set_cons_zero]
  apply wpB_val
  · rfl
  · intro w' hw'
    go_simp
    exact (label_any k s n w').mono fun e w2 h => ⟨h.1, hw'.trans (h.2.mono hw'.size), h.2⟩
  simp only [Act.put, List.setIfInBounds_toArray, List.set_cons_succ, List.set_cons_zero]
  apply wpB_val
  · rfl
  · intro w' hw'
    have hbl := Below.refl w'.heap.size w'
    go_simp
    first | exact rfl | exact ⟨rfl, hbl⟩ | exact ⟨rfl, hw', hbl⟩
  simp only [Act.put, List.setIfInBounds_toArray, List.set_cons_succ, List.set_cons_zero]
  apply wpB_val
  · rfl
  · intro w' hw'
    have hbl := Below.refl w'.heap.size w'
    have h1 : w'.cell? ⟨W.heap.size, 33, none⟩ = some (.int .u64 n) := by_num (b0_5.out.below hw' b0_5.out.lt)
    go_simp
    first | exact rfl | exact ⟨rfl, hbl⟩ | exact ⟨rfl, hw', hbl⟩
  simp only [Act.put, List.setIfInBounds_toArray, List.set_cons_succ, List.set_cons_zero]
  apply bldA tBox
  · rfl
  · rfl
  · exact fun w' hw' => (gtb.out.below hw' gtb.out.lt).head
  simp only [Act.put, List.setIfInBounds_toArray, List.set_cons_succ, List.set_cons_zero]
  apply wpB_val
  · rfl
  · intro w' hw'
    go_simp
    exact (HC.out.unwrap k f G HK.out HF.out HGl.out (cut100 s) HL.out n HN.out _ H2t.out w' (sa_5.out.on hw')).mono fun e w2 h => ⟨h.1, hw'.trans (h.2.mono hw'.size), h.2⟩
  simp only [Act.put, List.setIfInBounds_toArray, List.set_cons_succ, List.set_cons_zero]
  rw [← HK2.out, ← HE2.out]
  apply wpB_val
  · rfl
  · intro w' hw'
    have hbl := Below.refl w'.heap.size w'
    go_simp
    first | exact rfl | exact ⟨rfl, hbl⟩ | exact ⟨rfl, hw', hbl⟩
  simp only [Act.put, List.setIfInBounds_toArray, List.set_cons_succ, List.set_cons_zero]
  apply wpB_val
  · rfl
  · intro w' hw'
    have hbl := Below.refl w'.heap.size w'
    go_simp
    first | exact rfl | exact ⟨rfl, hbl⟩ | exact ⟨rfl, hw', hbl⟩
  simp only [Act.put, List.setIfInBounds_toArray, List.set_cons_succ, List.set_cons_zero]
  apply wpB_val
  · rfl
  · intro w' hw'
    have hbl := Below.refl w'.heap.size w'
    go_simp
    first | exact rfl | exact ⟨rfl, hbl⟩ | exact ⟨rfl, hw', hbl⟩
  simp only [Act.put, List.setIfInBounds_toArray, List.set_cons_succ, List.set_cons_zero]
  refine wpB_nil ⟨fun _ => ⟨rfl, rfl⟩, fun gl w7 hw2 qp hgp => ?_⟩
  unfold ptr
  go_upto_region 10 with fail
  have qn := hid qp
  clear qp hgp
  have hb_6 := hid (hb_5.out.trans (hw2.mono hb_5.out.size))
  have sa_6 := hid (sa_5.out.on hw2)
  have b0_6 := hid (b0_5.out.below hw2 b0_5.out.lt)
  have b1_6 := hid (b1_5.out.below hw2 b1_5.out.lt)
  have b2_6 := hid (b2_5.out.below hw2 b2_5.out.lt)
  have ga_6 := hid (ga_5.out.below hw2 ga_5.out.lt)
  have gs_6 := hid (gs_5.out.below hw2 gs_5.out.lt)
  have gk_6 := hid (gk_5.out.below hw2 gk_5.out.lt)
  have gt_6 := hid (gtb.out.below hw2 gtb.out.lt)
  clear hb_5 sa_5 b0_5 b1_5 b2_5 ga_5 gs_5 gk_5 gtb
  clear hw2
  have glb := qn
  clear qn
  refine wp_region_fixed (C := fun w' => Below w7.heap.size w7 w') 5 (Below.refl _ _) ?_
  simp only [List.take_succ_cons, List.take_zero, List.drop_succ_cons, List.drop_zero]
  apply wpK_val
  · rfl
  · intro w' hw'
    go_simp
    first | exact rfl | exact ⟨rfl, hw'⟩
  simp only [Act.put, List.setIfInBounds_toArray, List.set_cons_succ, List.set_cons_zero]
  apply kldA tK
  · rfl
  · rfl
  · exact fun w' hw' => duo_at0 (gt_6.out.below hw' gt_6.out.lt)
  simp only [Act.put, List.setIfInBounds_toArray, List.set_cons_succ, List.set_cons_zero]
  apply wpK_val
  · rfl
  · intro w' hw'
    go_simp
    first | exact rfl | exact ⟨rfl, hw'⟩
  simp only [Act.put, List.setIfInBounds_toArray, List.set_cons_succ, List.set_cons_zero]
  apply kldA tK
  · rfl
  · rfl
  · exact fun w' hw' => duo_at0 (ga_6.out.below hw' ga_6.out.lt)
  simp only [Act.put, List.setIfInBounds_toArray, List.set_cons_succ, List.set_cons_zero]
  apply keqU bd uK eqg_key
  · rfl
  · rfl
  · rfl
  · exact HBDt.out
  simp only [Act.put, List.setIfInBounds_toArray, List.set_cons_succ, List.set_cons_zero]
  refine wpK_nil fun w8 hw8 => ?_
  have hb_7 := hid (hb_6.out.trans (hw8.mono hb_6.out.size))
  have sa_7 := hid (sa_6.out.on hw8)
  have b0_7 := hid (b0_6.out.below hw8 b0_6.out.lt)
  have b1_7 := hid (b1_6.out.below hw8 b1_6.out.lt)
  have b2_7 := hid (b2_6.out.below hw8 b2_6.out.lt)
  have ga_7 := hid (ga_6.out.below hw8 ga_6.out.lt)
  have gs_7 := hid (gs_6.out.below hw8 gs_6.out.lt)
  have gk_7 := hid (gk_6.out.below hw8 gk_6.out.lt)
  have gt_7 := hid (gt_6.out.below hw8 gt_6.out.lt)
  have gl_7 := hid (glb.out.below hw8 glb.out.lt)
  clear hb_6 sa_6 b0_6 b1_6 b2_6 ga_6 gs_6 gk_6 gt_6 glb
  clear hw8
  cases bd with
  | true =>
    have hfd : ∀ i, i < 32 → f i = D i := eqA_iff.1 HBDt.out
    have hb2 : b2t = true := by rw [← H2t.out, tagB_congr hfd, ← HGt.out]; exact eqA_yes fun _ _ => rfl
    have h0 : E2 = 0 := by rw [HE2.out, hb2]; rfl
    have hK := hid (show ∀ i, i < 32 → K2 i = x i by
      intro i hi
      rw [HK2.out, hb2, if_pos rfl, ← congrFun HXB.out i]
      unfold xorF
      rw [hfd i hi])
    subst h0
    clear hfd hb2
    go_upto_region 11 with fail
    refine wp_region_fixed (C := fun w' => Below w8.heap.size w8 w') 10 (Below.refl _ _) ?_
    simp only [List.take_succ_cons, List.take_zero, List.drop_succ_cons, List.drop_zero]
    apply wpK_val
    · rfl
    · intro w' hw'
      go_simp
      first | exact rfl | exact ⟨rfl, hw'⟩
    simp only [Act.put, List.setIfInBounds_toArray, List.set_cons_succ, List.set_cons_zero]
    apply wpK_val
    · rfl
    · intro w' hw'
      go_simp
      first | exact rfl | exact ⟨rfl, hw'⟩
    simp only [Act.put, List.setIfInBounds_toArray, List.set_cons_succ, List.set_cons_zero]
    apply wpK_val
    · rfl
    · intro w' hw'
      go_simp
      first | exact rfl | exact ⟨rfl, hw'⟩
    simp only [Act.put, List.setIfInBounds_toArray, List.set_cons_succ, List.set_cons_zero]
    apply kldA tK
    · rfl
    · rfl
    · exact fun w' hw' => (gl_7.out.below hw' gl_7.out.lt).head
    simp only [Act.put, List.setIfInBounds_toArray, List.set_cons_succ, List.set_cons_zero]
    apply kldA tK
    · rfl
    · rfl
    · exact fun w' hw' => (b1_7.out.below hw' b1_7.out.lt).head
    simp only [Act.put, List.setIfInBounds_toArray, List.set_cons_succ, List.set_cons_zero]
    apply keqU true uK eqg_key
    · rfl
    · rfl
    · rfl
    · exact eqA_yes hK.out
    simp only [Act.put, List.setIfInBounds_toArray, List.set_cons_succ, List.set_cons_zero]
    apply wpK_val
    · rfl
    · intro w' hw'
      go_simp
      first | exact rfl | exact ⟨rfl, hw'⟩
    simp only [Act.put, List.setIfInBounds_toArray, List.set_cons_succ, List.set_cons_zero]
    apply wpK_val
    · rfl
    · intro w' hw'
      go_simp
      first | exact rfl | exact ⟨rfl, hw'⟩
    simp only [Act.put, List.setIfInBounds_toArray, List.set_cons_succ, List.set_cons_zero]
    apply wpK_val
    · rfl
    · intro w' hw'
      go_simp
      exact (works_any HC.out w' (sa_7.out.on hw')).mono fun e w2 h => ⟨h.1, hw'.trans (h.2.mono hw'.size)⟩
    simp only [Act.put, List.setIfInBounds_toArray, List.set_cons_succ, List.set_cons_zero]
    apply wpK_val
    · rfl
    · intro w' hw'
      go_simp
      first | exact rfl | exact ⟨rfl, hw'⟩
    simp only [Act.put, List.setIfInBounds_toArray, List.set_cons_succ, List.set_cons_zero]
    refine wpK_nil fun w9 hww9 => ?_
    have hb_8 := hid (hb_7.out.trans (hww9.mono hb_7.out.size))
    have sa_8 := hid (sa_7.out.on hww9)
    have b0_8 := hid (b0_7.out.below hww9 b0_7.out.lt)
    have b1_8 := hid (b1_7.out.below hww9 b1_7.out.lt)
    have b2_8 := hid (b2_7.out.below hww9 b2_7.out.lt)
    have ga_8 := hid (ga_7.out.below hww9 ga_7.out.lt)
    have gs_8 := hid (gs_7.out.below hww9 gs_7.out.lt)
    have gk_8 := hid (gk_7.out.below hww9 gk_7.out.lt)
    have gt_8 := hid (gt_7.out.below hww9 gt_7.out.lt)
    have gl_8 := hid (gl_7.out.below hww9 gl_7.out.lt)
    clear hb_7 sa_7 b0_7 b1_7 b2_7 ga_7 gs_7 gk_7 gt_7 gl_7
    clear hww9
    have rb := hid hb_8.out
    clear hb_8 sa_8 b0_8 b1_8 b2_8 ga_8 gs_8 gk_8 gt_8 gl_8
    go_wp2_with fail
    go_ret
    exact ⟨rfl, rb.out⟩
  | false =>
    cases b2t with
    | true =>
      have h0 : E2 = 0 := by rw [HE2.out]; rfl
      subst h0
      go_upto_region 13 with fail
      obtain ⟨SK, hSK⟩ : ∃ SK, SK = sub k (lab (cut100 s) wSeal n) := ⟨_, rfl⟩
      have HSK := hid hSK
      have HSl := hid (show ∀ i, SK i < 256 by rw [hSK]; exact sub_lt _ _)
      clear hSK
      refine wp_region_new1 (C := fun w' => Below w8.heap.size w8 w') 10 23 (ar 32 fun _ => 0) 14 rfl (by kernel_rfl) (by kernel_rfl) (by kernel_rfl) (run_alloc_ar tK) (Below.refl _ _).drew (fun w' hw' => hw'.alloc hw'.size _) (fun w' hw' => hw'.size) ?_
      simp only [List.take_succ_cons, List.take_zero, List.drop_succ_cons, List.drop_zero]
      apply wpB_val
      · rfl
      · intro w' hw'
        have hbl := Below.refl w'.heap.size w'
        go_simp
        first | exact rfl | exact ⟨rfl, hbl⟩ | exact ⟨rfl, hw', hbl⟩
      simp only [Act.put, List.setIfInBounds_toArray, List.set_cons_succ, List.set_cons_zero]
      apply bldA tK
      · rfl
      · rfl
      · exact fun w' hw' => by_key (b0_7.out.below hw' b0_7.out.lt)
      simp only [Act.put, List.setIfInBounds_toArray, List.set_cons_succ, List.set_cons_zero]
      apply bldR (tBy' k s n)
      · rfl
      · rfl
      · exact fun w' hw' => (b0_7.out.below hw' b0_7.out.lt).whole
      simp only [Act.put, List.setIfInBounds_toArray, List.set_cons_succ, List.set_cons_zero]
      apply wpB_val
      · rfl
      · intro w' hw'
        go_simp
        exact (label_any k s n w').mono fun e w2 h => ⟨h.1, hw'.trans (h.2.mono hw'.size), h.2⟩
      simp only [Act.put, List.setIfInBounds_toArray, List.set_cons_succ, List.set_cons_zero]
      apply bcat (s := cut100 s) (t := wSeal)
      · rfl
      · rfl
      · rfl
      · have := HL.out; show (cut100 s).size + 6 ≤ 1000000; omega
      simp only [Act.put, List.setIfInBounds_toArray, List.set_cons_succ, List.set_cons_zero]
      apply wpB_val
      · rfl
      · intro w' hw'
        have hbl := Below.refl w'.heap.size w'
        go_simp
        first | exact rfl | exact ⟨rfl, hbl⟩ | exact ⟨rfl, hw', hbl⟩
      simp only [Act.put, List.setIfInBounds_toArray, List.set_cons_succ, List.set_cons_zero]
      apply wpB_val
      · rfl
      · intro w' hw'
        have hbl := Below.refl w'.heap.size w'
        have h1 : w'.cell? ⟨W.heap.size, 33, none⟩ = some (.int .u64 n) := by_num (b0_7.out.below hw' b0_7.out.lt)
        go_simp
        first | exact rfl | exact ⟨rfl, hbl⟩ | exact ⟨rfl, hw', hbl⟩
      simp only [Act.put, List.setIfInBounds_toArray, List.set_cons_succ, List.set_cons_zero]
      apply wpB_val
      · rfl
      · intro w' hw'
        go_simp
        exact (ldigits_any n HN.out w').mono fun e w2 h => ⟨h.1, hw'.trans (h.2.mono hw'.size), h.2⟩
      simp only [Act.put, List.setIfInBounds_toArray, List.set_cons_succ, List.set_cons_zero]
      apply bcat (s := cut100 s ++ wSeal) (t := str (dec n))
      · rfl
      · rfl
      · rfl
      · rw [ByteArray.size_append, str_size]; have := HL.out; have := dec_20 HN.out; show (cut100 s).size + 6 + _ ≤ 1000000; omega
      simp only [Act.put, List.setIfInBounds_toArray, List.set_cons_succ, List.set_cons_zero]
      apply wpB_val
      · rfl
      · intro w' hw'
        go_simp
        exact (sub_any k HK.out (lab (cut100 s) wSeal n) (by have := hlab.out; omega) w' (sa_7.out.on hw')).mono fun e w2 h => ⟨h.1, hw'.trans (h.2.mono hw'.size), h.2⟩
      simp only [Act.put, List.setIfInBounds_toArray, List.set_cons_succ, List.set_cons_zero]
      rw [show cut100 s ++ wSeal ++ str (dec n) = lab (cut100 s) wSeal n from rfl, ← HSK.out]
      refine wpB_nil fun gq w9a hw2 qp hgp => ?_
      unfold ptr
      go_upto_region 14 with ((with_reducible apply stA tK); rfl; rfl; exact qp)
      have hbe := hid (show Below w8.heap.size w8 (w9a.setRow gq (ar 32 SK)) from below_setRow hw2 hgp _)
      have qn := hid (qp.setRow_same (ar 32 SK))
      generalize w9a.setRow gq (ar 32 SK) = w9 at hbe qn ⊢
      clear hw2 qp hgp
      have hb_8 := hid (hb_7.out.trans (hbe.out.mono hb_7.out.size))
      have sa_8 := hid (sa_7.out.on hbe.out)
      have b0_8 := hid (b0_7.out.below hbe.out b0_7.out.lt)
      have b1_8 := hid (b1_7.out.below hbe.out b1_7.out.lt)
      have b2_8 := hid (b2_7.out.below hbe.out b2_7.out.lt)
      have ga_8 := hid (ga_7.out.below hbe.out ga_7.out.lt)
      have gs_8 := hid (gs_7.out.below hbe.out gs_7.out.lt)
      have gk_8 := hid (gk_7.out.below hbe.out gk_7.out.lt)
      have gt_8 := hid (gt_7.out.below hbe.out gt_7.out.lt)
      have gl_8 := hid (gl_7.out.below hbe.out gl_7.out.lt)
      clear hb_7 sa_7 b0_7 b1_7 b2_7 ga_7 gs_7 gk_7 gt_7 gl_7
      clear hbe
      have gqb := qn
      clear qn
      have heq := hid (show eqA 32 (HmM.tag (HmM.dl SK) (rowK f)) (HmM.tag (HmM.dl SK) (rowK D)) = true by
        have h := H2t.out
        rw [HGt.out] at h
        unfold tagB at h
        rwa [← HSK.out] at h)
      refine wp_region_tail (C := fun w' => Below w9.heap.size w9 w') 12 (by kernel_rfl) (by kernel_rfl) (by kernel_rfl) (Below.refl _ _).drew ?_
      simp only [List.take_succ_cons, List.take_zero, List.drop_succ_cons, List.drop_zero]
      apply kldA tK
      · rfl
      · rfl
      · exact fun w' hw' => (gqb.out.below hw' gqb.out.lt).head
      simp only [Act.put, List.setIfInBounds_toArray, List.set_cons_succ, List.set_cons_zero]
      apply wpK_val
      · rfl
      · intro w' hw'
        go_simp
        first | exact rfl | exact ⟨rfl, hw'⟩
      simp only [Act.put, List.setIfInBounds_toArray, List.set_cons_succ, List.set_cons_zero]
      apply kldA tK
      · rfl
      · rfl
      · exact fun w' hw' => duo_at0 (gt_8.out.below hw' gt_8.out.lt)
      simp only [Act.put, List.setIfInBounds_toArray, List.set_cons_succ, List.set_cons_zero]
      apply wpK_val
      · rfl
      · intro w' hw'
        go_simp
        exact (ltag_any SK f HSl.out HF.out w' (sa_8.out.on hw')).mono fun e w2 h => ⟨h.1, hw'.trans (h.2.mono hw'.size)⟩
      simp only [Act.put, List.setIfInBounds_toArray, List.set_cons_succ, List.set_cons_zero]
      apply kldA tK
      · rfl
      · rfl
      · exact fun w' hw' => (gqb.out.below hw' gqb.out.lt).head
      simp only [Act.put, List.setIfInBounds_toArray, List.set_cons_succ, List.set_cons_zero]
      apply wpK_val
      · rfl
      · intro w' hw'
        go_simp
        first | exact rfl | exact ⟨rfl, hw'⟩
      simp only [Act.put, List.setIfInBounds_toArray, List.set_cons_succ, List.set_cons_zero]
      apply kldA tK
      · rfl
      · rfl
      · exact fun w' hw' => duo_at0 (ga_8.out.below hw' ga_8.out.lt)
      simp only [Act.put, List.setIfInBounds_toArray, List.set_cons_succ, List.set_cons_zero]
      apply wpK_val
      · rfl
      · intro w' hw'
        go_simp
        exact (ltag_any SK D HSl.out HDl.out w' (sa_8.out.on hw')).mono fun e w2 h => ⟨h.1, hw'.trans (h.2.mono hw'.size)⟩
      simp only [Act.put, List.setIfInBounds_toArray, List.set_cons_succ, List.set_cons_zero]
      apply keqU true uTag eqg_tag
      · rfl
      · rfl
      · rfl
      · exact heq.out
      simp only [Act.put, List.setIfInBounds_toArray, List.set_cons_succ, List.set_cons_zero]
      apply wpK_val
      · rfl
      · intro w' hw'
        go_simp
        first | exact rfl | exact ⟨rfl, hw'⟩
      simp only [Act.put, List.setIfInBounds_toArray, List.set_cons_succ, List.set_cons_zero]
      apply wpK_val
      · rfl
      · intro w' hw'
        go_simp
        exact (works_any HC.out w' (sa_8.out.on hw')).mono fun e w2 h => ⟨h.1, hw'.trans (h.2.mono hw'.size)⟩
      simp only [Act.put, List.setIfInBounds_toArray, List.set_cons_succ, List.set_cons_zero]
      apply wpK_val
      · rfl
      · intro w' hw'
        go_simp
        first | exact rfl | exact ⟨rfl, hw'⟩
      simp only [Act.put, List.setIfInBounds_toArray, List.set_cons_succ, List.set_cons_zero]
      refine wpK_nil fun w10 hww10 => ?_
      have hb_9 := hid (hb_8.out.trans (hww10.mono hb_8.out.size))
      have sa_9 := hid (sa_8.out.on hww10)
      have b0_9 := hid (b0_8.out.below hww10 b0_8.out.lt)
      have b1_9 := hid (b1_8.out.below hww10 b1_8.out.lt)
      have b2_9 := hid (b2_8.out.below hww10 b2_8.out.lt)
      have ga_9 := hid (ga_8.out.below hww10 ga_8.out.lt)
      have gs_9 := hid (gs_8.out.below hww10 gs_8.out.lt)
      have gk_9 := hid (gk_8.out.below hww10 gk_8.out.lt)
      have gt_9 := hid (gt_8.out.below hww10 gt_8.out.lt)
      have gl_9 := hid (gl_8.out.below hww10 gl_8.out.lt)
      have gq_9 := hid (gqb.out.below hww10 gqb.out.lt)
      clear hb_8 sa_8 b0_8 b1_8 b2_8 ga_8 gs_8 gk_8 gt_8 gl_8 gqb
      clear hww10
      have rb := hid hb_9.out
      clear hb_9 sa_9 b0_9 b1_9 b2_9 ga_9 gs_9 gk_9 gt_9 gl_9 gq_9
      go_wp2_with fail
      go_ret
      exact ⟨rfl, rb.out⟩
    | false =>
      have h0 : E2 = 12 := by rw [HE2.out]; rfl
      subst h0
      have hK := hid (show ∀ i, i < 32 → K2 i = 0 by intro i _; rw [HK2.out]; rfl)
      go_upto_region 15 with fail
      refine wp_region_fixed (C := fun w' => Below w8.heap.size w8 w') 10 (Below.refl _ _) ?_
      simp only [List.take_succ_cons, List.take_zero, List.drop_succ_cons, List.drop_zero]
      apply wpK_val
      · rfl
      · intro w' hw'
        go_simp
        first | exact rfl | exact ⟨rfl, hw'⟩
      simp only [Act.put, List.setIfInBounds_toArray, List.set_cons_succ, List.set_cons_zero]
      apply wpK_val
      · rfl
      · intro w' hw'
        go_simp
        first | exact rfl | exact ⟨rfl, hw'⟩
      simp only [Act.put, List.setIfInBounds_toArray, List.set_cons_succ, List.set_cons_zero]
      apply wpK_val
      · rfl
      · intro w' hw'
        go_simp
        first | exact rfl | exact ⟨rfl, hw'⟩
      simp only [Act.put, List.setIfInBounds_toArray, List.set_cons_succ, List.set_cons_zero]
      apply kldA tK
      · rfl
      · rfl
      · exact fun w' hw' => (gl_7.out.below hw' gl_7.out.lt).head
      simp only [Act.put, List.setIfInBounds_toArray, List.set_cons_succ, List.set_cons_zero]
      apply kbldZ (hb := built_k0)
      · rfl
      simp only [Act.put, List.setIfInBounds_toArray, List.set_cons_succ, List.set_cons_zero]
      apply keqU true uK eqg_key
      · rfl
      · rfl
      · rfl
      · exact eqA_yes hK.out
      simp only [Act.put, List.setIfInBounds_toArray, List.set_cons_succ, List.set_cons_zero]
      apply wpK_val
      · rfl
      · intro w' hw'
        go_simp
        first | exact rfl | exact ⟨rfl, hw'⟩
      simp only [Act.put, List.setIfInBounds_toArray, List.set_cons_succ, List.set_cons_zero]
      apply wpK_val
      · rfl
      · intro w' hw'
        go_simp
        first | exact rfl | exact ⟨rfl, hw'⟩
      simp only [Act.put, List.setIfInBounds_toArray, List.set_cons_succ, List.set_cons_zero]
      apply wpK_val
      · rfl
      · intro w' hw'
        go_simp
        exact (works_any HC.out w' (sa_7.out.on hw')).mono fun e w2 h => ⟨h.1, hw'.trans (h.2.mono hw'.size)⟩
      simp only [Act.put, List.setIfInBounds_toArray, List.set_cons_succ, List.set_cons_zero]
      apply wpK_val
      · rfl
      · intro w' hw'
        go_simp
        first | exact rfl | exact ⟨rfl, hw'⟩
      simp only [Act.put, List.setIfInBounds_toArray, List.set_cons_succ, List.set_cons_zero]
      refine wpK_nil fun w9 hww9 => ?_
      have hb_8 := hid (hb_7.out.trans (hww9.mono hb_7.out.size))
      have sa_8 := hid (sa_7.out.on hww9)
      have b0_8 := hid (b0_7.out.below hww9 b0_7.out.lt)
      have b1_8 := hid (b1_7.out.below hww9 b1_7.out.lt)
      have b2_8 := hid (b2_7.out.below hww9 b2_7.out.lt)
      have ga_8 := hid (ga_7.out.below hww9 ga_7.out.lt)
      have gs_8 := hid (gs_7.out.below hww9 gs_7.out.lt)
      have gk_8 := hid (gk_7.out.below hww9 gk_7.out.lt)
      have gt_8 := hid (gt_7.out.below hww9 gt_7.out.lt)
      have gl_8 := hid (gl_7.out.below hww9 gl_7.out.lt)
      clear hb_7 sa_7 b0_7 b1_7 b2_7 ga_7 gs_7 gk_7 gt_7 gl_7
      clear hww9
      have rb := hid hb_8.out
      clear hb_8 sa_8 b0_8 b1_8 b2_8 ga_8 gs_8 gk_8 gt_8 gl_8
      go_wp2_with fail
      go_ret
      exact ⟨rfl, rb.out⟩
end BxP
end Go.Proofs.YtdfoehcdabmagaaDoor
set_option maxRecDepth 100000
namespace Go.Proofs.YtdfoehcdabmagaaDoor
open Go.ChangeShapes Go.WideShapes Go.ChangeAt Go.RowKit
open DvP (tK tT sub uK eqg_key sub_any)
attribute [local go_sem] Gives GivesE
theorem zeroL_256 (n : Nat) : B256 (List.replicate n 0) := fun x hx => by rw [(List.mem_replicate.1 hx).2]; omega
theorem gE_eqB {a : Act} {w : World} {dst : Option Tmp} {ty r T : TypeId} {pos : String} {after : Array Edge} {x y : Operand} {f g : Nat → Nat} {n : Nat} {gd : Option (Nat × Bool)} {R : Value → World → Prop} (b : Bool) (hT : Tryd.prog.underlying T = some (.array n 5)) (hg : Tryd.prog.eqGuardType Tryd.prog.depth T = false)
    (hx : a.eval x = .agg (ar n f)) (hy : a.eval y = .agg (ar n g)) (hb : eqA n f g = b) (hR : R (.bool b) w) : GivesE Tryd.prog ⟨dst, .binOp .eql T x y r, ty, pos, after, gd⟩ a w R := gE_eqU hT hg hx hy (by rw [hb]; exact hR)
theorem gE_bldZ {a : Act} {w : World} {dst : Option Tmp} {ty T : TypeId} {pos : String} {after : Array Edge} {cs : Array Value} {gd : Option (Nat × Bool)} {R : Value → World → Prop} (hb : ∀ w, (Instr.build T #[]).run Tryd.prog w = .ok (.agg cs) w) (hR : R (.agg cs) w) : GivesE Tryd.prog ⟨dst, .build T #[], ty, pos, after, gd⟩ a w R := by
  have e : (#[] : Array (Nat × Operand)).map (fun (i, x) => (i, a.eval x)) = #[] := by simp
  unfold GivesE
  simp only [execOp, Sem.run_bind, e, hb, Result.andThen_ok, Sem.run_pure]
  exact hR
theorem arg_nil {w : World} : Arg w none [] 0 0 := ⟨rfl, Nat.le_refl _, Nat.zero_le _, (fun x hx => by cases hx), fun _ => ⟨rfl, rfl⟩, Byt.none rfl⟩
namespace BxP
theorem lab_pad0 : lab sSlot wPad 0 = ⟨#[115, 108, 111, 116, 32, 112, 97, 100, 32, 48]⟩ := by decide +kernel
theorem lab_seal0 : lab sSlot wSeal 0 = ⟨#[115, 108, 111, 116, 32, 115, 101, 97, 108, 32, 48]⟩ := by decide +kernel
theorem cut_tag {D G G2 : Nat → Nat} {h : Nat} (e : G2 = fun i => if i = 31 then h else G i) : (ar 64 (duo D G)).setIfInBounds 63 (.int .u8 (h : Nat)) = ar 64 (duo D G2) := by
  unfold ar
  rw [row_set]
  refine row_ext fun j hj => ?_
  by_cases h1 : j = 63
  · subst h1
    rw [if_pos rfl, e]; rfl
  · rw [if_neg h1, e]
    unfold duo
    by_cases h2 : j < 32
    · rw [if_pos h2, if_pos h2]
    · rw [if_neg h2, if_neg h2]
      show Value.int IntKind.u8 ((G (j - 32) : Nat) : Int) = Value.int IntKind.u8 (((if j - 32 = 31 then h else G (j - 32) : Nat)) : Int)
      rw [if_neg (by omega)]
set_option maxHeartbeats 3200000 in
set_option maxRecDepth 100000 in
theorem known_law (hC : BoxC) (W : World) (hS : Salts W) :
    Calls Tryd.prog 7 #[] W fun e w' => e = .returned (.bool true) ∧ Below W.heap.size W w' := by
  have HC := hid hC
  have SA := hid hS
  obtain ⟨KK, hKK⟩ : ∃ KK : Nat → Nat, KK = fun _ => 1 := ⟨_, rfl⟩
  obtain ⟨V, hV⟩ : ∃ V : Nat → Nat, V = fun _ => 2 := ⟨_, rfl⟩
  obtain ⟨P, hP⟩ : ∃ P, P = pad KK sSlot 0 := ⟨_, rfl⟩
  obtain ⟨D, hD⟩ : ∃ D, D = xorF V (pad KK sSlot 0) := ⟨_, rfl⟩
  obtain ⟨SK, hSK⟩ : ∃ SK, SK = sub KK (lab sSlot wSeal 0) := ⟨_, rfl⟩
  obtain ⟨G, hG⟩ : ∃ G, G = tagB KK sSlot 0 D := ⟨_, rfl⟩
  have HK := hid (show ∀ i, KK i < 256 by rw [hKK]; intro _; exact (by decide : (1 : Nat) < 256))
  have HV := hid (show ∀ i, V i < 256 by rw [hV]; intro _; exact (by decide : (2 : Nat) < 256))
  have HKK := hid hKK
  have HVV := hid hV
  have HPs := hid (show sub KK ⟨#[115, 108, 111, 116, 32, 112, 97, 100, 32, 48]⟩ = P by rw [hP, ← lab_pad0]; rfl)
  have HSs := hid (show sub KK ⟨#[115, 108, 111, 116, 32, 115, 101, 97, 108, 32, 48]⟩ = SK by rw [hSK, ← lab_seal0])
  have HSl := hid (show ∀ i, SK i < 256 by rw [hSK]; exact sub_lt _ _)
  have HTG := hid (show HmM.tag (HmM.dl SK) (rowK D) = G by rw [hG, hSK]; rfl)
  have HBD := hid (show boxF KK sSlot 0 V = duo D G by rw [hG, hD]; rfl)
  have HDl := hid (show ∀ i, D i < 256 by rw [hD]; exact xorF_lt HV.out (sub_lt _ _))
  have HGl := hid (show ∀ i, G i < 256 by rw [hG]; exact tagB_lt _ _ _ _)
  have HT := hid (show eqA 32 (tagB KK sSlot 0 D) G = true by rw [hG]; exact eqA_yes fun _ _ => rfl)
  have HXB := hid (show xorF D (pad KK sSlot 0) = V by rw [hD]; exact xor_back _ _)
  have HDx := hid (show ∀ i, D i ^^^ P i = 2 by intro i; rw [hD, hP]; show (V i ^^^ _) ^^^ _ = 2; rw [Nat.xor_assoc, Nat.xor_self, Nat.xor_zero, hV])
  have HPl := hid (show ∀ i, P i < 256 by rw [hP]; exact sub_lt _ _)
  obtain ⟨g31, hg31⟩ : ∃ q, q = G 31 := ⟨_, rfl⟩
  obtain ⟨h31, hh31⟩ : ∃ q, q = g31 ^^^ 1 := ⟨_, rfl⟩
  have lg : g31 < 256 := by rw [hg31]; exact HGl.out 31
  have HX31 := hid (show bits .xor .u8 (g31 : Int) ((1 : Nat) : Int) = ((h31 : Nat) : Int) by rw [u8_xor_nat _ _ lg (by omega), hh31])
  obtain ⟨G2, hG2⟩ : ∃ G2 : Nat → Nat, G2 = fun i => if i = 31 then h31 else G i := ⟨_, rfl⟩
  have HG2 := hid hG2
  have hne : h31 ≠ g31 := by
    rw [hh31]
    intro h
    have h2 : g31 ^^^ (g31 ^^^ 1) = g31 ^^^ g31 := by rw [h]
    rw [← Nat.xor_assoc, Nat.xor_self, Nat.zero_xor] at h2
    exact absurd h2 (by decide)
  have HT2 := hid (show eqA 32 (tagB KK sSlot 0 D) G2 = false by
    rw [← hG]
    refine eqA_no fun h => ?_
    have h3 := h 31 (by omega)
    rw [hG2] at h3
    simp only [if_pos] at h3
    exact hne (by rw [hg31, h3]))
  have HG2l := hid (show ∀ i, G2 i < 256 by
    rw [hG2]
    intro i
    show (if _ then _ else _) < 256
    split
    · rw [hh31]; exact Nat.xor_lt_two_pow (n := 8) lg (by omega)
    · exact HGl.out i)
  have HG31 := hid hg31
  clear hC hS hKK hV hP hD hSK hG hg31 hh31 hG2 hne lg
  go_enter Tryd.func7, Tryd.ntmps7
  go_upto_region 2 with (with_reducible apply alA tK)
  generalize hw1 : World.alloc (World.alloc W _) _ = w1
  have d0 : Blk w1 W.heap.size 23 (ar 32 fun _ => 0) := by rw [← hw1]; exact (Blk.new _ _ _).alloc _
  have d1 : Blk w1 (W.heap.size + 1) 23 (ar 32 fun _ => 0) := by rw [← hw1]; exact Blk.top rfl (by simp)
  have db : Below W.heap.size W w1 := by rw [← hw1]; exact ((Below.refl _ _).alloc (Nat.le_refl _) _).alloc (by simp) _
  clear hw1
  go_wp2_with fail
  go_loopw [3] (fun u wr => ∃ i : Nat, i ≤ 32 ∧ u = .int .i64 i ∧ Blk wr W.heap.size 23 (ar 32 (upTo i (fun _ => 0) KK)) ∧ Blk wr (W.heap.size + 1) 23 (ar 32 (upTo i (fun _ => 0) V)) ∧ Below W.heap.size W wr) (fun u _ => 32 - (intOf u).toNat)
  case atStart => exact ⟨0, by omega, rfl, by rw [upTo_zero]; exact d0, by rw [upTo_zero]; exact d1, db⟩
  case round =>
    clear d0 d1 db
    obtain ⟨i, hi, rfl, b1, b2, hb⟩ := hrel
    by_cases hlt : i < 32
    · have ti : (i : Int) < 32 := by omega
      have c1 : wr.cell? ⟨W.heap.size, i, none⟩ = some (.int .u8 0) := by rw [b1.cell, get_ar hlt, upTo_at]; rfl
      have c2 : wr.cell? ⟨W.heap.size + 1, i, none⟩ = some (.int .u8 0) := by rw [b2.cell, get_ar hlt, upTo_at]; rfl
      have c3 := b1.frozen i
      have c4 := b2.frozen i
      go_upto_region 6 with fail
      have n1 := upTo_step (k := i) (f := fun _ => 0) (h := KK) (by have := b1.setCell_same i (.int .u8 1); rw [show (1 : Int) = ((KK i : Nat) : Int) by rw [HKK.out]; rfl] at this; exact this)
      rw [show ((KK i : Nat) : Int) = 1 by rw [HKK.out]; rfl] at n1
      have n2 := b2.setCell_other (p := ⟨W.heap.size, i, none⟩) (by simp) (.int .u8 1)
      have nb := hb.setCell (p := ⟨W.heap.size, i, none⟩) (Nat.le_refl _) (.int .u8 1)
      generalize wr.setCell ⟨W.heap.size, i, none⟩ (.int .u8 1) = wq at n1 n2 nb ⊢
      clear c1 c2 c3 c4 b1 b2 hb
      have c2 : wq.cell? ⟨W.heap.size + 1, i, none⟩ = some (.int .u8 0) := by rw [n2.cell, get_ar hlt, upTo_at]; rfl
      have c4 := n2.frozen i
      go_wp2_with fail
      have m2 := upTo_step (k := i) (f := fun _ => 0) (h := V) (by have := n2.setCell_same i (.int .u8 2); rw [show (2 : Int) = ((V i : Nat) : Int) by rw [HVV.out]; rfl] at this; exact this)
      rw [show ((V i : Nat) : Int) = 2 by rw [HVV.out]; rfl] at m2
      have m1 := n1.setCell_other (p := ⟨W.heap.size + 1, i, none⟩) (by simp) (.int .u8 2)
      have mb := nb.setCell (p := ⟨W.heap.size + 1, i, none⟩) (by simp) (.int .u8 2)
      go_roundw
      case rel => exact ⟨i + 1, by omega, by go_num, m1, m2, mb⟩
      case measure => simp [intOf]; omega
    · obtain ⟨wo, hwo⟩ : ∃ wo, wo = wr := ⟨_, rfl⟩
      subst hwo
      have ti : decide ((i : Int) < 32) = false := by simp; omega
      rw [upTo_all (by omega)] at b1 b2
      have b0 := hid b1
      have b1 := hid b2
      have hb := hid hb
      have sa := hid (SA.out.on hb.out)
      clear hlt b2
      go_wp2_with (first | ((with_reducible apply ldA tK); rfl; exact b0.out) | ((with_reducible apply ldA tK); rfl; exact b1.out))
      refine (HC.out.wrap KK V HK.out HV.out sSlot (by decide) 0 (by omega) wo sa.out).mono ?_
      rintro e w2 ⟨rfl, hcl⟩
      rw [HBD.out]
      have hb_1 := hid (hb.out.trans (hcl.mono hb.out.size))
      have sa_1 := hid (sa.out.on hcl)
      have b0_1 := hid (b0.out.below hcl b0.out.lt)
      have b1_1 := hid (b1.out.below hcl b1.out.lt)
      clear hb sa b0 b1
      clear hcl
      have hz : Blk (w2.alloc (.cells (ar 64 fun _ => 0) 29)) w2.heap.size 29 (ar 64 fun _ => 0) := Blk.new _ _ _
      obtain ⟨ga, hgn⟩ : ∃ ga, ga = w2.heap.size := ⟨_, rfl⟩
      go_upto_region 8 with (first | (with_reducible apply alA tBox) | ((with_reducible apply stA tBox); rfl; rfl; exact hz))
      rw [← hgn] at hz ⊢
      have hbe := hid (show Below w2.heap.size w2 ((w2.alloc (.cells (ar 64 fun _ => 0) 29)).setRow ga (ar 64 (duo D G))) from below_setRow ((Below.refl _ _).alloc (Nat.le_refl _) _) (by omega) _)
      have qs := hid (hz.setRow_same (ar 64 (duo D G)))
      generalize (w2.alloc (.cells (ar 64 fun _ => 0) 29)).setRow ga (ar 64 (duo D G)) = w3 at hbe qs ⊢
      clear hz hgn
      have hb_2 := hid (hb_1.out.trans (hbe.out.mono hb_1.out.size))
      have sa_2 := hid (sa_1.out.on hbe.out)
      have b0_2 := hid (b0_1.out.below hbe.out b0_1.out.lt)
      have b1_2 := hid (b1_1.out.below hbe.out b1_1.out.lt)
      clear hb_1 sa_1 b0_1 b1_1
      clear hbe
      have gab := qs
      clear qs
      go_wp2_with ((with_reducible apply ldA tK); rfl; exact b0_2.out)
      refine (sub_any KK HK.out ⟨#[115, 108, 111, 116, 32, 112, 97, 100, 32, 48]⟩ (by decide) w3 sa_2.out).mono ?_
      rintro e w4 ⟨rfl, hcl⟩
      rw [HPs.out]
      have hb_3 := hid (hb_2.out.trans (hcl.mono hb_2.out.size))
      have sa_3 := hid (sa_2.out.on hcl)
      have b0_3 := hid (b0_2.out.below hcl b0_2.out.lt)
      have b1_3 := hid (b1_2.out.below hcl b1_2.out.lt)
      have ga_3 := hid (gab.out.below hcl gab.out.lt)
      clear hb_2 sa_2 b0_2 b1_2 gab
      clear hcl
      have hz : Blk (w4.alloc (.cells (ar 32 fun _ => 0) 23)) w4.heap.size 23 (ar 32 fun _ => 0) := Blk.new _ _ _
      obtain ⟨gp, hgn⟩ : ∃ gp, gp = w4.heap.size := ⟨_, rfl⟩
      go_upto_region 9 with (first | (with_reducible apply alA tK) | ((with_reducible apply stA tK); rfl; rfl; exact hz))
      rw [← hgn] at hz ⊢
      have hbe := hid (show Below w4.heap.size w4 ((w4.alloc (.cells (ar 32 fun _ => 0) 23)).setRow gp (ar 32 P)) from below_setRow ((Below.refl _ _).alloc (Nat.le_refl _) _) (by omega) _)
      have qs := hid (hz.setRow_same (ar 32 P))
      generalize (w4.alloc (.cells (ar 32 fun _ => 0) 23)).setRow gp (ar 32 P) = w5 at hbe qs ⊢
      clear hz hgn
      have hb_4 := hid (hb_3.out.trans (hbe.out.mono hb_3.out.size))
      have sa_4 := hid (sa_3.out.on hbe.out)
      have b0_4 := hid (b0_3.out.below hbe.out b0_3.out.lt)
      have b1_4 := hid (b1_3.out.below hbe.out b1_3.out.lt)
      have ga_4 := hid (ga_3.out.below hbe.out ga_3.out.lt)
      clear hb_3 sa_3 b0_3 b1_3 ga_3
      clear hbe
      have gpb := qs
      clear qs
      go_wp2_with fail
      go_loopw [6] (fun u wr => ∃ j : Nat, j ≤ 32 ∧ u = .int .i64 j ∧ Hid (Below w5.heap.size w5 wr)) (fun u _ => 32 - (intOf u).toNat)
      case atStart => exact ⟨0, by omega, rfl, hid (Below.refl _ _)⟩
      case round =>
        obtain ⟨j, hj, rfl, hbr⟩ := hrel
        by_cases hlt : j < 32
        · have tj : (j : Int) < 32 := by omega
          obtain ⟨D1, hD1⟩ : ∃ D1, D1 = D j := ⟨_, rfl⟩
          obtain ⟨P1, hP1⟩ : ∃ P1, P1 = P j := ⟨_, rfl⟩
          have x1 := hid (show bits .xor .u8 (D1 : Int) (P1 : Int) = 2 by rw [u8_xor_nat _ _ (by rw [hD1]; exact HDl.out j) (by rw [hP1]; exact HPl.out j), hD1, hP1, HDx.out j]; rfl)
          have ca := hid (show ∀ w', Below wr.heap.size wr w' → w'.cell? ⟨ga, j, none⟩ = some (.int .u8 (D1 : Nat)) from fun w' hw' => by rw [hD1, (ga_4.out.below (hbr.out.trans (hw'.mono hbr.out.size)) ga_4.out.lt).cell, get_ar (by omega)]; unfold duo; rw [if_pos hlt])
          have cp := hid (show ∀ w', Below wr.heap.size wr w' → w'.cell? ⟨gp, j, none⟩ = some (.int .u8 (P1 : Nat)) from fun w' hw' => by rw [hP1, (gpb.out.below (hbr.out.trans (hw'.mono hbr.out.size)) gpb.out.lt).cell, get_ar hlt])
          clear hD1 hP1
          go_wp2_with fail
          refine wp_region_tail (C := fun w' => Below wr.heap.size wr w') 9 (by kernel_rfl) (by kernel_rfl) (by kernel_rfl) (Below.refl _ _).drew ?_
          simp only [List.take_succ_cons, List.take_zero, List.drop_succ_cons, List.drop_zero]
          apply wpK_val
          · rfl
          · intro w' hw'
            go_simp
            first | exact rfl | exact ⟨rfl, hw'⟩
          simp only [Act.put, List.setIfInBounds_toArray, List.set_cons_succ, List.set_cons_zero]
          apply wpK_val
          · rfl
          · intro w' hw'
            go_simp
            first | exact rfl | exact ⟨rfl, hw'⟩
          simp only [Act.put, List.setIfInBounds_toArray, List.set_cons_succ, List.set_cons_zero]
          apply wpK_val
          · rfl
          · intro w' hw'
            go_simp
            first | exact rfl | exact ⟨rfl, hw'⟩
          simp only [Act.put, List.setIfInBounds_toArray, List.set_cons_succ, List.set_cons_zero]
          apply wpK_val
          · rfl
          · intro w' hw'
            have hcell := ca.out w' hw'
            go_simp
            first | exact rfl | exact ⟨rfl, hw'⟩
          simp only [Act.put, List.setIfInBounds_toArray, List.set_cons_succ, List.set_cons_zero]
          apply wpK_val
          · rfl
          · intro w' hw'
            go_simp
            first | exact rfl | exact ⟨rfl, hw'⟩
          simp only [Act.put, List.setIfInBounds_toArray, List.set_cons_succ, List.set_cons_zero]
          apply wpK_val
          · rfl
          · intro w' hw'
            go_simp
            first | exact rfl | exact ⟨rfl, hw'⟩
          simp only [Act.put, List.setIfInBounds_toArray, List.set_cons_succ, List.set_cons_zero]
          apply wpK_val
          · rfl
          · intro w' hw'
            have hcell := cp.out w' hw'
            go_simp
            first | exact rfl | exact ⟨rfl, hw'⟩
          simp only [Act.put, List.setIfInBounds_toArray, List.set_cons_succ, List.set_cons_zero]
          apply wpK_val
          · rfl
          · intro w' hw'
            have h1 : bits .xor .u8 (D1 : Int) (P1 : Int) = 2 := x1.out
            go_simp
            first | exact rfl | exact ⟨rfl, hw'⟩
          simp only [Act.put, List.setIfInBounds_toArray, List.set_cons_succ, List.set_cons_zero]
          apply wpK_val
          · rfl
          · intro w' hw'
            go_simp
            first | exact rfl | exact ⟨rfl, hw'⟩
          simp only [Act.put, List.setIfInBounds_toArray, List.set_cons_succ, List.set_cons_zero]
          refine wpK_nil fun w6 hw6 => ?_
          have hb6 := hid (hbr.out.trans (hw6.mono hbr.out.size))
          clear ca cp x1 hbr hw6
          go_wp2_with fail
          go_roundw
          case rel => exact ⟨j + 1, by omega, by go_num, hb6⟩
          case measure => simp [intOf]; omega
        · have tj : decide ((j : Int) < 32) = false := by simp; omega
          clear hlt
          have hb_5 := hid (hb_4.out.trans (hbr.out.mono hb_4.out.size))
          have sa_5 := hid (sa_4.out.on hbr.out)
          have b0_5 := hid (b0_4.out.below hbr.out b0_4.out.lt)
          have b1_5 := hid (b1_4.out.below hbr.out b1_4.out.lt)
          have ga_5 := hid (ga_4.out.below hbr.out ga_4.out.lt)
          have gp_5 := hid (gpb.out.below hbr.out gpb.out.lt)
          clear hb_4 sa_4 b0_4 b1_4 ga_4 gpb
          clear hbr
          go_wp2_with (first | ((with_reducible apply ldA tK); rfl; exact b0_5.out) | ((with_reducible apply ldA tBox); rfl; exact ga_5.out))
          refine (HC.out.unwrap KK D G HK.out HDl.out HGl.out sSlot (by decide) 0 (by omega) true HT.out wr sa_5.out).mono ?_
          rintro e w6 ⟨rfl, hcl⟩
          rw [if_pos rfl, if_pos rfl, HXB.out]
          have hb_6 := hid (hb_5.out.trans (hcl.mono hb_5.out.size))
          have sa_6 := hid (sa_5.out.on hcl)
          have b0_6 := hid (b0_5.out.below hcl b0_5.out.lt)
          have b1_6 := hid (b1_5.out.below hcl b1_5.out.lt)
          have ga_6 := hid (ga_5.out.below hcl ga_5.out.lt)
          have gp_6 := hid (gp_5.out.below hcl gp_5.out.lt)
          clear hb_5 sa_5 b0_5 b1_5 ga_5 gp_5
          clear hcl
          have hz : Blk (w6.alloc (.cells (ar 32 fun _ => 0) 23)) w6.heap.size 23 (ar 32 fun _ => 0) := Blk.new _ _ _
          obtain ⟨gx, hgn⟩ : ∃ gx, gx = w6.heap.size := ⟨_, rfl⟩
          go_upto_region 15 with (first | (with_reducible apply alA tK) | ((with_reducible apply stA tK); rfl; rfl; exact hz))
          rw [← hgn] at hz ⊢
          have hbe := hid (show Below w6.heap.size w6 ((w6.alloc (.cells (ar 32 fun _ => 0) 23)).setRow gx (ar 32 V)) from below_setRow ((Below.refl _ _).alloc (Nat.le_refl _) _) (by omega) _)
          have qs := hid (hz.setRow_same (ar 32 V))
          generalize (w6.alloc (.cells (ar 32 fun _ => 0) 23)).setRow gx (ar 32 V) = w7 at hbe qs ⊢
          clear hz hgn
          have hb_7 := hid (hb_6.out.trans (hbe.out.mono hb_6.out.size))
          have sa_7 := hid (sa_6.out.on hbe.out)
          have b0_7 := hid (b0_6.out.below hbe.out b0_6.out.lt)
          have b1_7 := hid (b1_6.out.below hbe.out b1_6.out.lt)
          have ga_7 := hid (ga_6.out.below hbe.out ga_6.out.lt)
          have gp_7 := hid (gp_6.out.below hbe.out gp_6.out.lt)
          clear hb_6 sa_6 b0_6 b1_6 ga_6 gp_6
          clear hbe
          have gxb := qs
          clear qs
          have hz : Blk (w7.alloc (.cells (ar 64 fun _ => 0) 29)) w7.heap.size 29 (ar 64 fun _ => 0) := Blk.new _ _ _
          obtain ⟨gt, hgn⟩ : ∃ gt, gt = w7.heap.size := ⟨_, rfl⟩
          go_upto_region 16 with (first | ((with_reducible apply ldA tBox); rfl; exact ga_7.out) | (with_reducible apply alA tBox) | ((with_reducible apply stA tBox); rfl; rfl; exact hz))
          rw [← hgn] at hz ⊢
          have hbe := hid (show Below w7.heap.size w7 ((w7.alloc (.cells (ar 64 fun _ => 0) 29)).setRow gt (ar 64 (duo D G))) from below_setRow ((Below.refl _ _).alloc (Nat.le_refl _) _) (by omega) _)
          have qs := hz.setRow_same (ar 64 (duo D G))
          generalize (w7.alloc (.cells (ar 64 fun _ => 0) 29)).setRow gt (ar 64 (duo D G)) = w7a at hbe qs ⊢
          have hgl : w7.heap.size ≤ gt := by omega
          have q63 : w7a.cell? ⟨gt, 63, none⟩ = some (.int .u8 (g31 : Nat)) := by rw [qs.cell, get_ar (by omega), HG31.out]; rfl
          have f63 := qs.frozen 63
          have x63 : bits .xor .u8 (g31 : Int) 1 = ((h31 : Nat) : Int) := HX31.out
          have QS := hid qs
          have HGL := hid hgl
          clear hz hgn qs hgl
          go_upto_region 17 with fail
          have qn := QS.out.setCell_same 63 (.int .u8 (h31 : Nat))
          rw [cut_tag HG2.out] at qn
          have hbf := hid (hbe.out.setCell (p := ⟨gt, 63, none⟩) HGL.out (.int .u8 (h31 : Nat)))
          have qm := hid qn
          generalize w7a.setCell ⟨gt, 63, none⟩ (.int .u8 (h31 : Nat)) = w8 at hbf qm ⊢
          clear hbe qn QS HGL q63 f63 x63
          have hb_8 := hid (hb_7.out.trans (hbf.out.mono hb_7.out.size))
          have sa_8 := hid (sa_7.out.on hbf.out)
          have b0_8 := hid (b0_7.out.below hbf.out b0_7.out.lt)
          have b1_8 := hid (b1_7.out.below hbf.out b1_7.out.lt)
          have ga_8 := hid (ga_7.out.below hbf.out ga_7.out.lt)
          have gp_8 := hid (gp_7.out.below hbf.out gp_7.out.lt)
          have gx_8 := hid (gxb.out.below hbf.out gxb.out.lt)
          clear hb_7 sa_7 b0_7 b1_7 ga_7 gp_7 gxb
          clear hbf
          have gtb := qm
          clear qm
          go_wp2_with (first | ((with_reducible apply ldA tK); rfl; exact b0_8.out) | ((with_reducible apply ldA tBox); rfl; exact gtb.out))
          refine (HC.out.unwrap KK D G2 HK.out HDl.out HG2l.out sSlot (by decide) 0 (by omega) false HT2.out w8 sa_8.out).mono ?_
          rintro e w9 ⟨rfl, hcl⟩
          rw [if_neg (by decide), if_neg (by decide)]
          have hb_9 := hid (hb_8.out.trans (hcl.mono hb_8.out.size))
          have sa_9 := hid (sa_8.out.on hcl)
          have b0_9 := hid (b0_8.out.below hcl b0_8.out.lt)
          have b1_9 := hid (b1_8.out.below hcl b1_8.out.lt)
          have ga_9 := hid (ga_8.out.below hcl ga_8.out.lt)
          have gp_9 := hid (gp_8.out.below hcl gp_8.out.lt)
          have gx_9 := hid (gx_8.out.below hcl gx_8.out.lt)
          have gt_9 := hid (gtb.out.below hcl gtb.out.lt)
          clear hb_8 sa_8 b0_8 b1_8 ga_8 gp_8 gx_8 gtb
          clear hcl
          have hz : Blk (w9.alloc (.cells (ar 32 fun _ => 0) 23)) w9.heap.size 23 (ar 32 fun _ => 0) := Blk.new _ _ _
          obtain ⟨gz, hgn⟩ : ∃ gz, gz = w9.heap.size := ⟨_, rfl⟩
          go_upto_region 18 with (first | (with_reducible apply alA tK) | ((with_reducible apply stA tK); rfl; rfl; exact hz))
          rw [← hgn] at hz ⊢
          have hbe := hid (show Below w9.heap.size w9 ((w9.alloc (.cells (ar 32 fun _ => 0) 23)).setRow gz (ar 32 (fun _ => 0))) from below_setRow ((Below.refl _ _).alloc (Nat.le_refl _) _) (by omega) _)
          have qs := hid (hz.setRow_same (ar 32 (fun _ => 0)))
          generalize (w9.alloc (.cells (ar 32 fun _ => 0) 23)).setRow gz (ar 32 (fun _ => 0)) = w10 at hbe qs ⊢
          clear hz hgn
          have hb_10 := hid (hb_9.out.trans (hbe.out.mono hb_9.out.size))
          have sa_10 := hid (sa_9.out.on hbe.out)
          have b0_10 := hid (b0_9.out.below hbe.out b0_9.out.lt)
          have b1_10 := hid (b1_9.out.below hbe.out b1_9.out.lt)
          have ga_10 := hid (ga_9.out.below hbe.out ga_9.out.lt)
          have gp_10 := hid (gp_9.out.below hbe.out gp_9.out.lt)
          have gx_10 := hid (gx_9.out.below hbe.out gx_9.out.lt)
          have gt_10 := hid (gt_9.out.below hbe.out gt_9.out.lt)
          clear hb_9 sa_9 b0_9 b1_9 ga_9 gp_9 gx_9 gt_9
          clear hbe
          have gzb := qs
          clear qs
          go_wp2_with ((with_reducible apply mkz (n := 63)); omega; rfl; rfl; intro v1 w11 o1 hm1; obtain ⟨A63, cA63, e1, a1⟩ := o1.arg (zeroL_256 63); rw [List.length_replicate] at e1 a1; subst e1)
          have a63 := hid a1
          clear o1 a1
          have hb_11 := hid (hb_10.out.trans (hm1.mono hb_10.out.size))
          have sa_11 := hid (sa_10.out.on hm1)
          have b0_11 := hid (b0_10.out.below hm1 b0_10.out.lt)
          have b1_11 := hid (b1_10.out.below hm1 b1_10.out.lt)
          have ga_11 := hid (ga_10.out.below hm1 ga_10.out.lt)
          have gp_11 := hid (gp_10.out.below hm1 gp_10.out.lt)
          have gx_11 := hid (gx_10.out.below hm1 gx_10.out.lt)
          have gt_11 := hid (gt_10.out.below hm1 gt_10.out.lt)
          have gz_11 := hid (gzb.out.below hm1 gzb.out.lt)
          clear hb_10 sa_10 b0_10 b1_10 ga_10 gp_10 gx_10 gt_10 gzb
          clear hm1
          refine (HC.out.few A63 63 cA63 (by omega) w11 ⟨_, a63.out⟩).mono ?_
          rintro e w12 ⟨v12, rfl, o12, hcl⟩
          obtain ⟨A13, c13, rfl, a13⟩ := o12.arg (fun x hx => by cases hx)
          clear o12 a13 a63
          have hb_12 := hid (hb_11.out.trans (hcl.mono hb_11.out.size))
          have sa_12 := hid (sa_11.out.on hcl)
          have b0_12 := hid (b0_11.out.below hcl b0_11.out.lt)
          have b1_12 := hid (b1_11.out.below hcl b1_11.out.lt)
          have ga_12 := hid (ga_11.out.below hcl ga_11.out.lt)
          have gp_12 := hid (gp_11.out.below hcl gp_11.out.lt)
          have gx_12 := hid (gx_11.out.below hcl gx_11.out.lt)
          have gt_12 := hid (gt_11.out.below hcl gt_11.out.lt)
          have gz_12 := hid (gz_11.out.below hcl gz_11.out.lt)
          clear hb_11 sa_11 b0_11 b1_11 ga_11 gp_11 gx_11 gt_11 gz_11
          clear hcl
          have hz : Blk (w12.alloc (.cells (ar 64 fun _ => 0) 29)) w12.heap.size 29 (ar 64 fun _ => 0) := Blk.new _ _ _
          obtain ⟨gy, hgn⟩ : ∃ gy, gy = w12.heap.size := ⟨_, rfl⟩
          go_upto_region 19 with (first | (with_reducible apply alA tBox) | ((with_reducible apply stA tBox); rfl; rfl; exact hz))
          rw [← hgn] at hz ⊢
          have hbe := hid (show Below w12.heap.size w12 ((w12.alloc (.cells (ar 64 fun _ => 0) 29)).setRow gy (ar 64 (fun _ => 0))) from below_setRow ((Below.refl _ _).alloc (Nat.le_refl _) _) (by omega) _)
          have qs := hid (hz.setRow_same (ar 64 (fun _ => 0)))
          generalize (w12.alloc (.cells (ar 64 fun _ => 0) 29)).setRow gy (ar 64 (fun _ => 0)) = w13 at hbe qs ⊢
          clear hz hgn
          have hb_13 := hid (hb_12.out.trans (hbe.out.mono hb_12.out.size))
          have sa_13 := hid (sa_12.out.on hbe.out)
          have b0_13 := hid (b0_12.out.below hbe.out b0_12.out.lt)
          have b1_13 := hid (b1_12.out.below hbe.out b1_12.out.lt)
          have ga_13 := hid (ga_12.out.below hbe.out ga_12.out.lt)
          have gp_13 := hid (gp_12.out.below hbe.out gp_12.out.lt)
          have gx_13 := hid (gx_12.out.below hbe.out gx_12.out.lt)
          have gt_13 := hid (gt_12.out.below hbe.out gt_12.out.lt)
          have gz_13 := hid (gz_12.out.below hbe.out gz_12.out.lt)
          clear hb_12 sa_12 b0_12 b1_12 ga_12 gp_12 gx_12 gt_12 gz_12
          clear hbe
          have gyb := qs
          clear qs
          go_wp2_with ((with_reducible apply mkz (n := 65)); omega; rfl; rfl; intro v1 w14 o1 hm1; obtain ⟨A65, cA65, e1, a1⟩ := o1.arg (zeroL_256 65); rw [List.length_replicate] at e1 a1; subst e1)
          have a65 := hid a1
          clear o1 a1
          have hb_14 := hid (hb_13.out.trans (hm1.mono hb_13.out.size))
          have sa_14 := hid (sa_13.out.on hm1)
          have b0_14 := hid (b0_13.out.below hm1 b0_13.out.lt)
          have b1_14 := hid (b1_13.out.below hm1 b1_13.out.lt)
          have ga_14 := hid (ga_13.out.below hm1 ga_13.out.lt)
          have gp_14 := hid (gp_13.out.below hm1 gp_13.out.lt)
          have gx_14 := hid (gx_13.out.below hm1 gx_13.out.lt)
          have gt_14 := hid (gt_13.out.below hm1 gt_13.out.lt)
          have gz_14 := hid (gz_13.out.below hm1 gz_13.out.lt)
          have gy_14 := hid (gyb.out.below hm1 gyb.out.lt)
          clear hb_13 sa_13 b0_13 b1_13 ga_13 gp_13 gx_13 gt_13 gz_13 gyb
          clear hm1
          refine (HC.out.get A65 (List.replicate 65 0) 65 cA65 (by omega) (by omega) w14 a65.out).mono ?_
          rintro e w15 ⟨v15, rfl, o15, hcl⟩
          rw [List.drop_replicate] at o15
          obtain ⟨A16, c16, rfl, a16⟩ := o15.arg (zeroL_256 _)
          rw [List.length_replicate] at a16 ⊢
          generalize (fun j => (List.replicate 65 0).getD j 0) = YY
          clear o15 a16 a65
          have hb_15 := hid (hb_14.out.trans (hcl.mono hb_14.out.size))
          have sa_15 := hid (sa_14.out.on hcl)
          have b0_15 := hid (b0_14.out.below hcl b0_14.out.lt)
          have b1_15 := hid (b1_14.out.below hcl b1_14.out.lt)
          have ga_15 := hid (ga_14.out.below hcl ga_14.out.lt)
          have gp_15 := hid (gp_14.out.below hcl gp_14.out.lt)
          have gx_15 := hid (gx_14.out.below hcl gx_14.out.lt)
          have gt_15 := hid (gt_14.out.below hcl gt_14.out.lt)
          have gz_15 := hid (gz_14.out.below hcl gz_14.out.lt)
          have gy_15 := hid (gy_14.out.below hcl gy_14.out.lt)
          clear hb_14 sa_14 b0_14 b1_14 ga_14 gp_14 gx_14 gt_14 gz_14 gy_14
          clear hcl
          have hz : Blk (w15.alloc (.cells (ar 64 fun _ => 0) 29)) w15.heap.size 29 (ar 64 fun _ => 0) := Blk.new _ _ _
          obtain ⟨gw, hgn⟩ : ∃ gw, gw = w15.heap.size := ⟨_, rfl⟩
          go_upto_region 20 with (first | (with_reducible apply alA tBox) | ((with_reducible apply stA tBox); rfl; rfl; exact hz))
          rw [← hgn] at hz ⊢
          have hbe := hid (show Below w15.heap.size w15 ((w15.alloc (.cells (ar 64 fun _ => 0) 29)).setRow gw (ar 64 YY)) from below_setRow ((Below.refl _ _).alloc (Nat.le_refl _) _) (by omega) _)
          have qs := hid (hz.setRow_same (ar 64 YY))
          generalize (w15.alloc (.cells (ar 64 fun _ => 0) 29)).setRow gw (ar 64 YY) = w16 at hbe qs ⊢
          clear hz hgn
          have hb_16 := hid (hb_15.out.trans (hbe.out.mono hb_15.out.size))
          have sa_16 := hid (sa_15.out.on hbe.out)
          have b0_16 := hid (b0_15.out.below hbe.out b0_15.out.lt)
          have b1_16 := hid (b1_15.out.below hbe.out b1_15.out.lt)
          have ga_16 := hid (ga_15.out.below hbe.out ga_15.out.lt)
          have gp_16 := hid (gp_15.out.below hbe.out gp_15.out.lt)
          have gx_16 := hid (gx_15.out.below hbe.out gx_15.out.lt)
          have gt_16 := hid (gt_15.out.below hbe.out gt_15.out.lt)
          have gz_16 := hid (gz_15.out.below hbe.out gz_15.out.lt)
          have gy_16 := hid (gy_15.out.below hbe.out gy_15.out.lt)
          clear hb_15 sa_15 b0_15 b1_15 ga_15 gp_15 gx_15 gt_15 gz_15 gy_15
          clear hbe
          have gwb := qs
          clear qs
          obtain ⟨LL, hLL⟩ : ∃ LL, LL = HmM.dl D ++ HmM.dl G := ⟨_, rfl⟩
          have HLL := hid hLL
          have HLn := hid (show LL.length = 64 by rw [hLL, List.length_append, HmM.dl_length, HmM.dl_length])
          have HL256 := hid (show B256 LL by
            rw [hLL]
            intro z hz
            rcases List.mem_append.1 hz with hz | hz
            · exact HmM.dl_256 HDl.out z hz
            · exact HmM.dl_256 HGl.out z hz)
          clear hLL
          refine wp_region_eS [some (.pointer (some ⟨ga, 32, none⟩)), some (.agg (ar 32 G)), some (.agg (ar 32 KK)), some (.agg (ar 32 SK)), some (.pointer (some ⟨ga, 0, none⟩)), some (.agg (ar 32 D)), some (.agg (ar 32 G)), some (.bool true), some (.bool true), some (.int .i64 0), some (.bool true), some (.bool true), some (.bool true), some (.agg (ar 32 V)), some (.agg (ar 32 V)), some (.bool true), some (.bool true), some (.bool true), some (.int .i64 12), some (.bool true), some (.bool true), some (.bool true), some (.agg (ar 32 fun _ => 0)), some (.agg (ar 32 fun _ => 0)), some (.bool true), some (.bool true), some (.bool true), some (.agg (ar 64 (duo D G))), none, some (.int .i64 64), some (.bool true), some (.bool true), some (.bool true), some (.int .i64 4), some (.bool true), some (.bool true), some (.bool true), some (.slice A13 0 c13), some (.int .i64 0), some (.bool true), some (.bool true), some (.bool true), some (.int .i64 0), some (.bool true), some (.bool true), some (.bool true), some (.slice A16 1 c16), some (.int .i64 1), some (.bool true), some (.bool true), some (.bool true), some (.bool true), some (.bool true)] [(28, LL)] 53 (by kernel_rfl) (by kernel_rfl) (by kernel_rfl) fun vs => ?_
          simp only [List.take_succ_cons, List.take_zero, List.drop_succ_cons, List.drop_zero]
          refine ⟨.inl ⟨rfl, fun dd w' hd hC hDs => ?_⟩, fun e => ?_⟩
          · go_simp
            first | exact ⟨rfl, hC, Below.refl _ _, eD_none rfl⟩ | exact ⟨rfl, Below.refl _ _, eD_none rfl⟩ | exact ⟨hC, Below.refl _ _, eD_none rfl⟩
          have e' : vs 0 = _ := e
          rw [e']
          clear e e'
          simp only [Act.put, List.setIfInBounds_toArray, List.set_cons_succ, List.set_cons_zero]
          refine ⟨.inl ⟨rfl, fun dd w' hd hC hDs => ?_⟩, fun e => ?_⟩
          · exact gE_ldA tT rfl (duo_at1 (ga_16.out.below hC ga_16.out.lt)) ⟨rfl, hC, Below.refl _ _, eD_none rfl⟩
          have e' : vs 1 = _ := e
          rw [e']
          clear e e'
          simp only [Act.put, List.setIfInBounds_toArray, List.set_cons_succ, List.set_cons_zero]
          refine ⟨.inl ⟨rfl, fun dd w' hd hC hDs => ?_⟩, fun e => ?_⟩
          · exact gE_ldA tK rfl ((b0_16.out.below hC b0_16.out.lt).head) ⟨rfl, hC, Below.refl _ _, eD_none rfl⟩
          have e' : vs 2 = _ := e
          rw [e']
          clear e e'
          simp only [Act.put, List.setIfInBounds_toArray, List.set_cons_succ, List.set_cons_zero]
          refine ⟨.inl ⟨rfl, fun dd w' hd hC hDs => ?_⟩, fun e => ?_⟩
          · go_simp
            refine ((by have := sub_any KK HK.out ⟨#[115, 108, 111, 116, 32, 115, 101, 97, 108, 32, 48]⟩ (by decide) w' (sa_16.out.on hC); rwa [HSs.out] at this : Calls _ _ _ _ _)).mono ?_
            rintro e w2 ⟨rfl, h2⟩
            exact ⟨_, rfl, rfl, hC.trans (h2.mono hC.size), h2, eD_none rfl⟩
          have e' : vs 3 = _ := e
          rw [e']
          clear e e'
          simp only [Act.put, List.setIfInBounds_toArray, List.set_cons_succ, List.set_cons_zero]
          refine ⟨.inl ⟨rfl, fun dd w' hd hC hDs => ?_⟩, fun e => ?_⟩
          · go_simp
            first | exact ⟨rfl, hC, Below.refl _ _, eD_none rfl⟩ | exact ⟨rfl, Below.refl _ _, eD_none rfl⟩ | exact ⟨hC, Below.refl _ _, eD_none rfl⟩
          have e' : vs 4 = _ := e
          rw [e']
          clear e e'
          simp only [Act.put, List.setIfInBounds_toArray, List.set_cons_succ, List.set_cons_zero]
          refine ⟨.inl ⟨rfl, fun dd w' hd hC hDs => ?_⟩, fun e => ?_⟩
          · exact gE_ldA tK rfl (duo_at0 (ga_16.out.below hC ga_16.out.lt)) ⟨rfl, hC, Below.refl _ _, eD_none rfl⟩
          have e' : vs 5 = _ := e
          rw [e']
          clear e e'
          simp only [Act.put, List.setIfInBounds_toArray, List.set_cons_succ, List.set_cons_zero]
          refine ⟨.inl ⟨rfl, fun dd w' hd hC hDs => ?_⟩, fun e => ?_⟩
          · go_simp
            refine ((by have := ltag_any SK D HSl.out HDl.out w' (sa_16.out.on hC); rwa [HTG.out] at this : Calls _ _ _ _ _)).mono ?_
            rintro e w2 ⟨rfl, h2⟩
            exact ⟨_, rfl, rfl, hC.trans (h2.mono hC.size), h2, eD_none rfl⟩
          have e' : vs 6 = _ := e
          rw [e']
          clear e e'
          simp only [Act.put, List.setIfInBounds_toArray, List.set_cons_succ, List.set_cons_zero]
          refine ⟨.inl ⟨rfl, fun dd w' hd hC hDs => ?_⟩, fun e => ?_⟩
          · exact gE_eqB true uTag eqg_tag rfl rfl (eqA_yes fun _ _ => rfl) ⟨rfl, hC, Below.refl _ _, eD_none rfl⟩
          have e' : vs 7 = _ := e
          rw [e']
          clear e e'
          simp only [Act.put, List.setIfInBounds_toArray, List.set_cons_succ, List.set_cons_zero]
          refine ⟨.inl ⟨rfl, fun dd w' hd hC hDs => ?_⟩, fun e => ?_⟩
          · go_simp
            first | exact ⟨rfl, hC, Below.refl _ _, eD_none rfl⟩ | exact ⟨rfl, Below.refl _ _, eD_none rfl⟩ | exact ⟨hC, Below.refl _ _, eD_none rfl⟩
          have e' : vs 8 = _ := e
          rw [e']
          clear e e'
          simp only [Act.put, List.setIfInBounds_toArray, List.set_cons_succ, List.set_cons_zero]
          refine ⟨.inl ⟨rfl, fun dd w' hd hC hDs => ?_⟩, fun e => ?_⟩
          · go_simp
            first | exact ⟨rfl, hC, Below.refl _ _, eD_none rfl⟩ | exact ⟨rfl, Below.refl _ _, eD_none rfl⟩ | exact ⟨hC, Below.refl _ _, eD_none rfl⟩
          have e' : vs 9 = _ := e
          rw [e']
          clear e e'
          simp only [Act.put, List.setIfInBounds_toArray, List.set_cons_succ, List.set_cons_zero]
          refine ⟨.inl ⟨rfl, fun dd w' hd hC hDs => ?_⟩, fun e => ?_⟩
          · go_simp
            first | exact ⟨rfl, hC, Below.refl _ _, eD_none rfl⟩ | exact ⟨rfl, Below.refl _ _, eD_none rfl⟩ | exact ⟨hC, Below.refl _ _, eD_none rfl⟩
          have e' : vs 10 = _ := e
          rw [e']
          clear e e'
          simp only [Act.put, List.setIfInBounds_toArray, List.set_cons_succ, List.set_cons_zero]
          refine ⟨.inl ⟨rfl, fun dd w' hd hC hDs => ?_⟩, fun e => ?_⟩
          · go_simp
            first | exact ⟨rfl, hC, Below.refl _ _, eD_none rfl⟩ | exact ⟨rfl, Below.refl _ _, eD_none rfl⟩ | exact ⟨hC, Below.refl _ _, eD_none rfl⟩
          have e' : vs 11 = _ := e
          rw [e']
          clear e e'
          simp only [Act.put, List.setIfInBounds_toArray, List.set_cons_succ, List.set_cons_zero]
          refine ⟨.inl ⟨rfl, fun dd w' hd hC hDs => ?_⟩, fun e => ?_⟩
          · go_simp
            first | exact ⟨rfl, hC, Below.refl _ _, eD_none rfl⟩ | exact ⟨rfl, Below.refl _ _, eD_none rfl⟩ | exact ⟨hC, Below.refl _ _, eD_none rfl⟩
          have e' : vs 12 = _ := e
          rw [e']
          clear e e'
          simp only [Act.put, List.setIfInBounds_toArray, List.set_cons_succ, List.set_cons_zero]
          refine ⟨.inl ⟨rfl, fun dd w' hd hC hDs => ?_⟩, fun e => ?_⟩
          · exact gE_ldA tK rfl ((gx_16.out.below hC gx_16.out.lt).head) ⟨rfl, hC, Below.refl _ _, eD_none rfl⟩
          have e' : vs 13 = _ := e
          rw [e']
          clear e e'
          simp only [Act.put, List.setIfInBounds_toArray, List.set_cons_succ, List.set_cons_zero]
          refine ⟨.inl ⟨rfl, fun dd w' hd hC hDs => ?_⟩, fun e => ?_⟩
          · exact gE_ldA tK rfl ((b1_16.out.below hC b1_16.out.lt).head) ⟨rfl, hC, Below.refl _ _, eD_none rfl⟩
          have e' : vs 14 = _ := e
          rw [e']
          clear e e'
          simp only [Act.put, List.setIfInBounds_toArray, List.set_cons_succ, List.set_cons_zero]
          refine ⟨.inl ⟨rfl, fun dd w' hd hC hDs => ?_⟩, fun e => ?_⟩
          · exact gE_eqB true uK eqg_key rfl rfl (eqA_yes fun _ _ => rfl) ⟨rfl, hC, Below.refl _ _, eD_none rfl⟩
          have e' : vs 15 = _ := e
          rw [e']
          clear e e'
          simp only [Act.put, List.setIfInBounds_toArray, List.set_cons_succ, List.set_cons_zero]
          refine ⟨.inl ⟨rfl, fun dd w' hd hC hDs => ?_⟩, fun e => ?_⟩
          · go_simp
            first | exact ⟨rfl, hC, Below.refl _ _, eD_none rfl⟩ | exact ⟨rfl, Below.refl _ _, eD_none rfl⟩ | exact ⟨hC, Below.refl _ _, eD_none rfl⟩
          have e' : vs 16 = _ := e
          rw [e']
          clear e e'
          simp only [Act.put, List.setIfInBounds_toArray, List.set_cons_succ, List.set_cons_zero]
          refine ⟨.inl ⟨rfl, fun dd w' hd hC hDs => ?_⟩, fun e => ?_⟩
          · go_simp
            first | exact ⟨rfl, hC, Below.refl _ _, eD_none rfl⟩ | exact ⟨rfl, Below.refl _ _, eD_none rfl⟩ | exact ⟨hC, Below.refl _ _, eD_none rfl⟩
          have e' : vs 17 = _ := e
          rw [e']
          clear e e'
          simp only [Act.put, List.setIfInBounds_toArray, List.set_cons_succ, List.set_cons_zero]
          refine ⟨.inl ⟨rfl, fun dd w' hd hC hDs => ?_⟩, fun e => ?_⟩
          · go_simp
            first | exact ⟨rfl, hC, Below.refl _ _, eD_none rfl⟩ | exact ⟨rfl, Below.refl _ _, eD_none rfl⟩ | exact ⟨hC, Below.refl _ _, eD_none rfl⟩
          have e' : vs 18 = _ := e
          rw [e']
          clear e e'
          simp only [Act.put, List.setIfInBounds_toArray, List.set_cons_succ, List.set_cons_zero]
          refine ⟨.inl ⟨rfl, fun dd w' hd hC hDs => ?_⟩, fun e => ?_⟩
          · go_simp
            first | exact ⟨rfl, hC, Below.refl _ _, eD_none rfl⟩ | exact ⟨rfl, Below.refl _ _, eD_none rfl⟩ | exact ⟨hC, Below.refl _ _, eD_none rfl⟩
          have e' : vs 19 = _ := e
          rw [e']
          clear e e'
          simp only [Act.put, List.setIfInBounds_toArray, List.set_cons_succ, List.set_cons_zero]
          refine ⟨.inl ⟨rfl, fun dd w' hd hC hDs => ?_⟩, fun e => ?_⟩
          · go_simp
            first | exact ⟨rfl, hC, Below.refl _ _, eD_none rfl⟩ | exact ⟨rfl, Below.refl _ _, eD_none rfl⟩ | exact ⟨hC, Below.refl _ _, eD_none rfl⟩
          have e' : vs 20 = _ := e
          rw [e']
          clear e e'
          simp only [Act.put, List.setIfInBounds_toArray, List.set_cons_succ, List.set_cons_zero]
          refine ⟨.inl ⟨rfl, fun dd w' hd hC hDs => ?_⟩, fun e => ?_⟩
          · go_simp
            first | exact ⟨rfl, hC, Below.refl _ _, eD_none rfl⟩ | exact ⟨rfl, Below.refl _ _, eD_none rfl⟩ | exact ⟨hC, Below.refl _ _, eD_none rfl⟩
          have e' : vs 21 = _ := e
          rw [e']
          clear e e'
          simp only [Act.put, List.setIfInBounds_toArray, List.set_cons_succ, List.set_cons_zero]
          refine ⟨.inl ⟨rfl, fun dd w' hd hC hDs => ?_⟩, fun e => ?_⟩
          · exact gE_ldA tK rfl ((gz_16.out.below hC gz_16.out.lt).head) ⟨rfl, hC, Below.refl _ _, eD_none rfl⟩
          have e' : vs 22 = _ := e
          rw [e']
          clear e e'
          simp only [Act.put, List.setIfInBounds_toArray, List.set_cons_succ, List.set_cons_zero]
          refine ⟨.inl ⟨rfl, fun dd w' hd hC hDs => ?_⟩, fun e => ?_⟩
          · exact gE_bldZ built_k0 ⟨rfl, hC, Below.refl _ _, eD_none rfl⟩
          have e' : vs 23 = _ := e
          rw [e']
          clear e e'
          simp only [Act.put, List.setIfInBounds_toArray, List.set_cons_succ, List.set_cons_zero]
          refine ⟨.inl ⟨rfl, fun dd w' hd hC hDs => ?_⟩, fun e => ?_⟩
          · exact gE_eqB true uK eqg_key rfl rfl (eqA_yes fun _ _ => rfl) ⟨rfl, hC, Below.refl _ _, eD_none rfl⟩
          have e' : vs 24 = _ := e
          rw [e']
          clear e e'
          simp only [Act.put, List.setIfInBounds_toArray, List.set_cons_succ, List.set_cons_zero]
          refine ⟨.inl ⟨rfl, fun dd w' hd hC hDs => ?_⟩, fun e => ?_⟩
          · go_simp
            first | exact ⟨rfl, hC, Below.refl _ _, eD_none rfl⟩ | exact ⟨rfl, Below.refl _ _, eD_none rfl⟩ | exact ⟨hC, Below.refl _ _, eD_none rfl⟩
          have e' : vs 25 = _ := e
          rw [e']
          clear e e'
          simp only [Act.put, List.setIfInBounds_toArray, List.set_cons_succ, List.set_cons_zero]
          refine ⟨.inl ⟨rfl, fun dd w' hd hC hDs => ?_⟩, fun e => ?_⟩
          · go_simp
            first | exact ⟨rfl, hC, Below.refl _ _, eD_none rfl⟩ | exact ⟨rfl, Below.refl _ _, eD_none rfl⟩ | exact ⟨hC, Below.refl _ _, eD_none rfl⟩
          have e' : vs 26 = _ := e
          rw [e']
          clear e e'
          simp only [Act.put, List.setIfInBounds_toArray, List.set_cons_succ, List.set_cons_zero]
          refine ⟨.inl ⟨rfl, fun dd w' hd hC hDs => ?_⟩, fun e => ?_⟩
          · exact gE_ldA tBox rfl ((ga_16.out.below hC ga_16.out.lt).head) ⟨rfl, hC, Below.refl _ _, eD_none rfl⟩
          have e' : vs 27 = _ := e
          rw [e']
          clear e e'
          simp only [Act.put, List.setIfInBounds_toArray, List.set_cons_succ, List.set_cons_zero]
          refine ⟨.inl ⟨rfl, fun dd w' hd hC hDs => ?_⟩, fun e => ?_⟩
          · go_simp
            refine ((by have := HC.out.put none [] 0 0 (by omega) D G HDl.out HGl.out w' arg_nil; rwa [List.nil_append, ← HLL.out] at this : Calls _ _ _ _ _)).mono ?_
            rintro e w2 ⟨v, rfl, o2, h2⟩
            have hbs : B256 _ := HL256.out
            exact ⟨_, rfl, own_sl o2 hbs, hC.trans (h2.mono hC.size), h2, own_eD rfl o2 hbs⟩
          obtain ⟨A28, c28, e'⟩ : ∃ (A : Option Addr) (c : Nat), vs 28 = .slice A _ c := e
          rw [e']
          have E28 := hid e'
          clear e'
          simp only [Act.put, List.setIfInBounds_toArray, List.set_cons_succ, List.set_cons_zero]
          refine ⟨.inl ⟨rfl, fun dd w' hd hC hDs => ?_⟩, fun e => ?_⟩
          · have h1 : ((LL.length : Nat) : Int) = 64 := by rw [HLn.out]; rfl
            go_simp
            first | exact ⟨rfl, hC, Below.refl _ _, eD_none rfl⟩ | exact ⟨rfl, Below.refl _ _, eD_none rfl⟩ | exact ⟨hC, Below.refl _ _, eD_none rfl⟩
          have e' : vs 29 = _ := e
          rw [e']
          clear e e'
          simp only [Act.put, List.setIfInBounds_toArray, List.set_cons_succ, List.set_cons_zero]
          refine ⟨.inl ⟨rfl, fun dd w' hd hC hDs => ?_⟩, fun e => ?_⟩
          · go_simp
            first | exact ⟨rfl, hC, Below.refl _ _, eD_none rfl⟩ | exact ⟨rfl, Below.refl _ _, eD_none rfl⟩ | exact ⟨hC, Below.refl _ _, eD_none rfl⟩
          have e' : vs 30 = _ := e
          rw [e']
          clear e e'
          simp only [Act.put, List.setIfInBounds_toArray, List.set_cons_succ, List.set_cons_zero]
          refine ⟨.inl ⟨rfl, fun dd w' hd hC hDs => ?_⟩, fun e => ?_⟩
          · go_simp
            first | exact ⟨rfl, hC, Below.refl _ _, eD_none rfl⟩ | exact ⟨rfl, Below.refl _ _, eD_none rfl⟩ | exact ⟨hC, Below.refl _ _, eD_none rfl⟩
          have e' : vs 31 = _ := e
          rw [e']
          clear e e'
          simp only [Act.put, List.setIfInBounds_toArray, List.set_cons_succ, List.set_cons_zero]
          refine ⟨.inl ⟨rfl, fun dd w' hd hC hDs => ?_⟩, fun e => ?_⟩
          · go_simp
            first | exact ⟨rfl, hC, Below.refl _ _, eD_none rfl⟩ | exact ⟨rfl, Below.refl _ _, eD_none rfl⟩ | exact ⟨hC, Below.refl _ _, eD_none rfl⟩
          have e' : vs 32 = _ := e
          rw [e']
          clear e e'
          simp only [Act.put, List.setIfInBounds_toArray, List.set_cons_succ, List.set_cons_zero]
          refine ⟨.inl ⟨rfl, fun dd w' hd hC hDs => ?_⟩, fun e => ?_⟩
          · go_simp
            first | exact ⟨rfl, hC, Below.refl _ _, eD_none rfl⟩ | exact ⟨rfl, Below.refl _ _, eD_none rfl⟩ | exact ⟨hC, Below.refl _ _, eD_none rfl⟩
          have e' : vs 33 = _ := e
          rw [e']
          clear e e'
          simp only [Act.put, List.setIfInBounds_toArray, List.set_cons_succ, List.set_cons_zero]
          refine ⟨.inl ⟨rfl, fun dd w' hd hC hDs => ?_⟩, fun e => ?_⟩
          · go_simp
            first | exact ⟨rfl, hC, Below.refl _ _, eD_none rfl⟩ | exact ⟨rfl, Below.refl _ _, eD_none rfl⟩ | exact ⟨hC, Below.refl _ _, eD_none rfl⟩
          have e' : vs 34 = _ := e
          rw [e']
          clear e e'
          simp only [Act.put, List.setIfInBounds_toArray, List.set_cons_succ, List.set_cons_zero]
          refine ⟨.inl ⟨rfl, fun dd w' hd hC hDs => ?_⟩, fun e => ?_⟩
          · go_simp
            first | exact ⟨rfl, hC, Below.refl _ _, eD_none rfl⟩ | exact ⟨rfl, Below.refl _ _, eD_none rfl⟩ | exact ⟨hC, Below.refl _ _, eD_none rfl⟩
          have e' : vs 35 = _ := e
          rw [e']
          clear e e'
          simp only [Act.put, List.setIfInBounds_toArray, List.set_cons_succ, List.set_cons_zero]
          refine ⟨.inl ⟨rfl, fun dd w' hd hC hDs => ?_⟩, fun e => ?_⟩
          · go_simp
            first | exact ⟨rfl, hC, Below.refl _ _, eD_none rfl⟩ | exact ⟨rfl, Below.refl _ _, eD_none rfl⟩ | exact ⟨hC, Below.refl _ _, eD_none rfl⟩
          have e' : vs 36 = _ := e
          rw [e']
          clear e e'
          simp only [Act.put, List.setIfInBounds_toArray, List.set_cons_succ, List.set_cons_zero]
          refine ⟨.inl ⟨rfl, fun dd w' hd hC hDs => ?_⟩, fun e => ?_⟩
          · go_simp
            first | exact ⟨rfl, hC, Below.refl _ _, eD_none rfl⟩ | exact ⟨rfl, Below.refl _ _, eD_none rfl⟩ | exact ⟨hC, Below.refl _ _, eD_none rfl⟩
          have e' : vs 37 = _ := e
          rw [e']
          clear e e'
          simp only [Act.put, List.setIfInBounds_toArray, List.set_cons_succ, List.set_cons_zero]
          refine ⟨.inl ⟨rfl, fun dd w' hd hC hDs => ?_⟩, fun e => ?_⟩
          · go_simp
            first | exact ⟨rfl, hC, Below.refl _ _, eD_none rfl⟩ | exact ⟨rfl, Below.refl _ _, eD_none rfl⟩ | exact ⟨hC, Below.refl _ _, eD_none rfl⟩
          have e' : vs 38 = _ := e
          rw [e']
          clear e e'
          simp only [Act.put, List.setIfInBounds_toArray, List.set_cons_succ, List.set_cons_zero]
          refine ⟨.inl ⟨rfl, fun dd w' hd hC hDs => ?_⟩, fun e => ?_⟩
          · go_simp
            first | exact ⟨rfl, hC, Below.refl _ _, eD_none rfl⟩ | exact ⟨rfl, Below.refl _ _, eD_none rfl⟩ | exact ⟨hC, Below.refl _ _, eD_none rfl⟩
          have e' : vs 39 = _ := e
          rw [e']
          clear e e'
          simp only [Act.put, List.setIfInBounds_toArray, List.set_cons_succ, List.set_cons_zero]
          refine ⟨.inl ⟨rfl, fun dd w' hd hC hDs => ?_⟩, fun e => ?_⟩
          · go_simp
            first | exact ⟨rfl, hC, Below.refl _ _, eD_none rfl⟩ | exact ⟨rfl, Below.refl _ _, eD_none rfl⟩ | exact ⟨hC, Below.refl _ _, eD_none rfl⟩
          have e' : vs 40 = _ := e
          rw [e']
          clear e e'
          simp only [Act.put, List.setIfInBounds_toArray, List.set_cons_succ, List.set_cons_zero]
          refine ⟨.inl ⟨rfl, fun dd w' hd hC hDs => ?_⟩, fun e => ?_⟩
          · go_simp
            first | exact ⟨rfl, hC, Below.refl _ _, eD_none rfl⟩ | exact ⟨rfl, Below.refl _ _, eD_none rfl⟩ | exact ⟨hC, Below.refl _ _, eD_none rfl⟩
          have e' : vs 41 = _ := e
          rw [e']
          clear e e'
          simp only [Act.put, List.setIfInBounds_toArray, List.set_cons_succ, List.set_cons_zero]
          refine ⟨.inl ⟨rfl, fun dd w' hd hC hDs => ?_⟩, fun e => ?_⟩
          · go_simp
            first | exact ⟨rfl, hC, Below.refl _ _, eD_none rfl⟩ | exact ⟨rfl, Below.refl _ _, eD_none rfl⟩ | exact ⟨hC, Below.refl _ _, eD_none rfl⟩
          have e' : vs 42 = _ := e
          rw [e']
          clear e e'
          simp only [Act.put, List.setIfInBounds_toArray, List.set_cons_succ, List.set_cons_zero]
          refine ⟨.inl ⟨rfl, fun dd w' hd hC hDs => ?_⟩, fun e => ?_⟩
          · go_simp
            first | exact ⟨rfl, hC, Below.refl _ _, eD_none rfl⟩ | exact ⟨rfl, Below.refl _ _, eD_none rfl⟩ | exact ⟨hC, Below.refl _ _, eD_none rfl⟩
          have e' : vs 43 = _ := e
          rw [e']
          clear e e'
          simp only [Act.put, List.setIfInBounds_toArray, List.set_cons_succ, List.set_cons_zero]
          refine ⟨.inl ⟨rfl, fun dd w' hd hC hDs => ?_⟩, fun e => ?_⟩
          · go_simp
            first | exact ⟨rfl, hC, Below.refl _ _, eD_none rfl⟩ | exact ⟨rfl, Below.refl _ _, eD_none rfl⟩ | exact ⟨hC, Below.refl _ _, eD_none rfl⟩
          have e' : vs 44 = _ := e
          rw [e']
          clear e e'
          simp only [Act.put, List.setIfInBounds_toArray, List.set_cons_succ, List.set_cons_zero]
          refine ⟨.inl ⟨rfl, fun dd w' hd hC hDs => ?_⟩, fun e => ?_⟩
          · go_simp
            first | exact ⟨rfl, hC, Below.refl _ _, eD_none rfl⟩ | exact ⟨rfl, Below.refl _ _, eD_none rfl⟩ | exact ⟨hC, Below.refl _ _, eD_none rfl⟩
          have e' : vs 45 = _ := e
          rw [e']
          clear e e'
          simp only [Act.put, List.setIfInBounds_toArray, List.set_cons_succ, List.set_cons_zero]
          refine ⟨.inl ⟨rfl, fun dd w' hd hC hDs => ?_⟩, fun e => ?_⟩
          · go_simp
            first | exact ⟨rfl, hC, Below.refl _ _, eD_none rfl⟩ | exact ⟨rfl, Below.refl _ _, eD_none rfl⟩ | exact ⟨hC, Below.refl _ _, eD_none rfl⟩
          have e' : vs 46 = _ := e
          rw [e']
          clear e e'
          simp only [Act.put, List.setIfInBounds_toArray, List.set_cons_succ, List.set_cons_zero]
          refine ⟨.inl ⟨rfl, fun dd w' hd hC hDs => ?_⟩, fun e => ?_⟩
          · go_simp
            first | exact ⟨rfl, hC, Below.refl _ _, eD_none rfl⟩ | exact ⟨rfl, Below.refl _ _, eD_none rfl⟩ | exact ⟨hC, Below.refl _ _, eD_none rfl⟩
          have e' : vs 47 = _ := e
          rw [e']
          clear e e'
          simp only [Act.put, List.setIfInBounds_toArray, List.set_cons_succ, List.set_cons_zero]
          refine ⟨.inl ⟨rfl, fun dd w' hd hC hDs => ?_⟩, fun e => ?_⟩
          · go_simp
            first | exact ⟨rfl, hC, Below.refl _ _, eD_none rfl⟩ | exact ⟨rfl, Below.refl _ _, eD_none rfl⟩ | exact ⟨hC, Below.refl _ _, eD_none rfl⟩
          have e' : vs 48 = _ := e
          rw [e']
          clear e e'
          simp only [Act.put, List.setIfInBounds_toArray, List.set_cons_succ, List.set_cons_zero]
          refine ⟨.inl ⟨rfl, fun dd w' hd hC hDs => ?_⟩, fun e => ?_⟩
          · go_simp
            first | exact ⟨rfl, hC, Below.refl _ _, eD_none rfl⟩ | exact ⟨rfl, Below.refl _ _, eD_none rfl⟩ | exact ⟨hC, Below.refl _ _, eD_none rfl⟩
          have e' : vs 49 = _ := e
          rw [e']
          clear e e'
          simp only [Act.put, List.setIfInBounds_toArray, List.set_cons_succ, List.set_cons_zero]
          refine ⟨.inl ⟨rfl, fun dd w' hd hC hDs => ?_⟩, fun e => ?_⟩
          · go_simp
            first | exact ⟨rfl, hC, Below.refl _ _, eD_none rfl⟩ | exact ⟨rfl, Below.refl _ _, eD_none rfl⟩ | exact ⟨hC, Below.refl _ _, eD_none rfl⟩
          have e' : vs 50 = _ := e
          rw [e']
          clear e e'
          simp only [Act.put, List.setIfInBounds_toArray, List.set_cons_succ, List.set_cons_zero]
          refine ⟨.inl ⟨rfl, fun dd w' hd hC hDs => ?_⟩, fun e => ?_⟩
          · go_simp
            refine (works_any HC.out w' (sa_16.out.on hC)).mono ?_
            rintro e w2 ⟨rfl, h2⟩
            exact ⟨_, rfl, rfl, hC.trans (h2.mono hC.size), h2, eD_none rfl⟩
          have e' : vs 51 = _ := e
          rw [e']
          clear e e'
          simp only [Act.put, List.setIfInBounds_toArray, List.set_cons_succ, List.set_cons_zero]
          refine ⟨.inl ⟨rfl, fun dd w' hd hC hDs => ?_⟩, fun e => ?_⟩
          · go_simp
            first | exact ⟨rfl, hC, Below.refl _ _, eD_none rfl⟩ | exact ⟨rfl, Below.refl _ _, eD_none rfl⟩ | exact ⟨hC, Below.refl _ _, eD_none rfl⟩
          have e' : vs 52 = _ := e
          rw [e']
          clear e e'
          simp only [Act.put, List.setIfInBounds_toArray, List.set_cons_succ, List.set_cons_zero]
          intro dd wz hall hCz hDs
          have rb := hid (hb_16.out.trans (hCz.mono hb_16.out.size))
          clear hb_16 sa_16 b0_16 b1_16 ga_16 gp_16 gx_16 gt_16 gz_16 gy_16 gwb hall hCz hDs
          go_wp2_with fail
          go_ret
          exact ⟨rfl, rb.out⟩
end BxP
end Go.Proofs.YtdfoehcdabmagaaDoor
