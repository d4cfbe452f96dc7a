/-
  The walk of HmacKeys.
-/
import Derived.Test.YtfgmgfniolmpkaaDoorHSame
import Derived.Test.YtfgmgfniolmpkaaDoorElts
namespace Go.Proofs.YtfgmgfniolmpkaaDoor
open Go.ChangeShapes Go.WideShapes Go.ChangeAt Go.RowKit
attribute [local go_sem] Gives
set_option maxHeartbeats 1000000 in
set_option maxRecDepth 100000 in
theorem hkeys_law (K : Option Addr) (key : List Nat) (kn kcap : Nat) (hkl : key.length = kn) (hkc : kn ≤ kcap) (hkm : kcap ≤ maxLen) (hk256 : B256 key) (hk0 : K = none → kn = 0 ∧ kcap = 0)
    (A : Option Addr) (l : List Nat) (n cap : Nat) (hl : l.length = n) (hc : n ≤ cap) (hm : cap ≤ maxLen) (h256 : B256 l) (more : Nat) (hmore : more < 256) (w : World) (hK : Byt w w.heap.size K key) (hA : Byt w w.heap.size A l) (hS : Salts w) :
    Calls Tryd.prog 7 #[.slice K kn kcap, .slice A n cap, .int .u8 more] w fun e w' => e = .returned (.bool true) ∧ Below w.heap.size w w' := by
  have CK := hid fun w => cut_any K kn kcap hkc hkm w
  have CB := hid fun w => cut_any A n cap hc hm w
  obtain ⟨key', hkey'⟩ : ∃ k, k = key.take 1000 := ⟨_, rfl⟩
  obtain ⟨l', hl'⟩ : ∃ k, k = l.take 1000 := ⟨_, rfl⟩
  have hkl' : key'.length = min kn 1000 := by rw [hkey', List.length_take, hkl]; omega
  have hll' : l'.length = min n 1000 := by rw [hl', List.length_take, hl]; omega
  have HK := hid (hK.take 1000)
  have HA := hid (hA.take 1000)
  have HK2 := hid (hk256.take 1000)
  have HL2 := hid (h256.take 1000)
  rw [← hkey'] at HK HK2
  rw [← hl'] at HA HL2
  have hk0' : K = none → min kn 1000 = 0 ∧ kcap = 0 := fun e => by obtain ⟨h1, h2⟩ := hk0 e; exact ⟨by omega, h2⟩
  generalize hkn' : min kn 1000 = kn' at *
  generalize hn' : min n 1000 = n' at *
  have hkc' : kn' ≤ kcap := by omega
  have hc' : n' ≤ cap := by omega
  have hk1000 : kn' ≤ 1000 := by omega
  have hn1000 : n' ≤ 1000 := by omega
  have SA := hid hS
  have HKL := hid hkl'
  have HLL := hid hll'
  have HK0 := hid hk0'
  clear hK hA hS hk256 h256 hkl hl hkl' hll' hkey' hl' hkn' hn' hk0 hk0'
  go_enter Tryd.func7, Tryd.ntmps7
  go_wp2_with fail
  refine (CK.out w).mono ?_
  rintro e w' ⟨rfl, rfl⟩
  go_wp2_with fail
  refine (CB.out w).mono ?_
  rintro e w' ⟨rfl, rfl⟩
  go_wp2_with fail
  refine (hof_any K key' kn' kcap HKL.out hkc' hkm (by omega) HK2.out A l' n' cap HLL.out hc' hm HL2.out (by omega) w HK.out HA.out SA.out).mono ?_
  rintro e w1 ⟨rfl, h1⟩
  obtain ⟨T, hT⟩ : ∃ T, T = HmM.tag key' l' := ⟨_, rfl⟩
  rw [← hT]
  have HT := hid hT
  clear hT
  have hz1 := h1.size
  go_upto_region 3 with ((with_reducible apply stt); rfl; rfl; exact Blk.top zlit_tag rfl)
  generalize hw2 : World.setRow _ _ _ = w2
  have c2 : Blk w2 w1.heap.size 25 (tag T) := by rw [← hw2]; exact (Blk.top zlit_tag rfl).setRow_same _
  have b2 : Below w.heap.size w w2 := by rw [← hw2]; exact below_setRow (h1.alloc hz1 _) hz1 _
  clear hw2 h1 hz1
  obtain ⟨g, hg⟩ : ∃ g, g = w1.heap.size := ⟨_, rfl⟩
  rw [← hg] at c2 ⊢
  clear hg
  have C2 := hid c2
  have B2 := hid b2
  clear c2 b2
  by_cases h64 : 64 < kn'
  · have t0 : decide ((64 : Int) < (kn' : Int)) = true := by simp; omega
    have hlong : HmM.tag (HmM.dl (ShaM.sum key')) l' = T := by rw [HT.out, HmM.tag_long (by rw [HKL.out]; exact h64)]
    have HLG := hid hlong
    clear hlong
    go_wp2_with fail
    refine (sum_any K key' kn' kcap HKL.out hkc' hkm (by omega) HK2.out w2 ((HK.out.below B2.out (Nat.le_refl _)).more B2.out.size) (SA.out.on B2.out)).mono ?_
    rintro e w3 ⟨rfl, h3⟩
    have c3 := C2.out.below h3 C2.out.lt
    have b3 := B2.out.trans (h3.mono B2.out.size)
    have hz3 := b3.size
    have hgl := c3.lt
    clear h3
    go_upto_region 5 with ((with_reducible apply stt); rfl; rfl; exact Blk.top zlit_tag rfl)
    generalize hw4 : World.setRow _ _ _ = w4
    have d1 : Blk w4 g 25 (tag T) := by rw [← hw4]; exact (c3.alloc _).setRow_other (by omega) _
    have d2 : Blk w4 w3.heap.size 25 (tag (ShaM.sum key')) := by rw [← hw4]; exact (Blk.top zlit_tag rfl).setRow_same _
    have b4 : Below w.heap.size w w4 := by rw [← hw4]; exact below_setRow (b3.alloc hz3 _) hz3 _
    clear hw4 b3 c3 hz3 hgl
    have D1 := hid d1
    have D2 := hid d2
    have B4 := hid b4
    have BY := hid (fun (w' : World) (hb : Below w4.heap.size w4 w') => (Blk.byt (d2.below hb d2.lt) (Nat.lt_of_lt_of_le d2.lt hb.size) (l := HmM.dl (ShaM.sum key')) (by rw [HmM.dl_length]; omega) fun j hj => by rw [HmM.dl_length] at hj; exact HmM.dl_get _ hj))
    clear d1 d2 b4 C2 B2
    have hE := fun w => eq_tag_self T w
    have hG := eqg_tag
    have HE := hid hE
    clear hE
    clear hG
    go_wp2_with fail
    refine wp_region_tail (C := fun w' => Below w4.heap.size w4 w') 8 (by kernel_rfl) (by kernel_rfl) (by kernel_rfl) (Below.refl _ _).drew ?_
    simp only [List.take_succ_cons, List.take_zero, List.drop_succ_cons, List.drop_zero]
    apply wpK_val
    · rfl
    · intro w' hw'
      go_simp
      first | exact rfl | exact ⟨rfl, hw'⟩
    simp only [Act.put, List.setIfInBounds_toArray, List.set_cons_succ, List.set_cons_zero]
    apply wpK_val
    · rfl
    · intro w' hw'
      go_simp
      first | exact rfl | exact ⟨rfl, hw'⟩
    simp only [Act.put, List.setIfInBounds_toArray, List.set_cons_succ, List.set_cons_zero]
    apply wpK_val
    · rfl
    · intro w' hw'
      go_simp
      exact (hof_any _ (HmM.dl (ShaM.sum key')) 32 32 (HmM.dl_length _) (Nat.le_refl _) (by unfold maxLen; omega) (by omega) (HmM.dl_256 (HmM.sum_256 _)) A l' n' cap HLL.out hc' hm HL2.out (by omega) _ (BY.out _ hw') ((HA.out.below (B4.out.trans (hw'.mono B4.out.size)) (Nat.le_refl _)).more (Nat.le_trans B4.out.size hw'.size)) (SA.out.on (B4.out.trans (hw'.mono B4.out.size)))).mono fun e w'' ⟨he, hb''⟩ => ⟨he.trans (by rw [HLG.out]), hw'.trans (hb''.mono hw'.size)⟩
    simp only [Act.put, List.setIfInBounds_toArray, List.set_cons_succ, List.set_cons_zero]
    apply klt
    · rfl
    · rfl
    · exact fun w' hw' => D1.out.below hw' D1.out.lt
    simp only [Act.put, List.setIfInBounds_toArray, List.set_cons_succ, List.set_cons_zero]
    apply wpK_val
    · rfl
    · intro w' hw'
      have h1 : _ := HE.out
      have h2 : _ := eqg_tag
      go_simp
      first | exact rfl | exact ⟨rfl, hw'⟩
    simp only [Act.put, List.setIfInBounds_toArray, List.set_cons_succ, List.set_cons_zero]
    apply wpK_val
    · rfl
    · intro w' hw'
      go_simp
      first | exact rfl | exact ⟨rfl, hw'⟩
    simp only [Act.put, List.setIfInBounds_toArray, List.set_cons_succ, List.set_cons_zero]
    apply wpK_val
    · rfl
    · intro w' hw'
      go_simp
      exact (works_any _ (SA.out.on (B4.out.trans (hw'.mono B4.out.size)))).mono fun e w'' ⟨he, hb''⟩ => ⟨he, hw'.trans (hb''.mono hw'.size)⟩
    simp only [Act.put, List.setIfInBounds_toArray, List.set_cons_succ, List.set_cons_zero]
    apply wpK_val
    · rfl
    · intro w' hw'
      go_simp
      first | exact rfl | exact ⟨rfl, hw'⟩
    simp only [Act.put, List.setIfInBounds_toArray, List.set_cons_succ, List.set_cons_zero]
    refine wpK_nil fun w5 hw5 => ?_
    have b5 := B4.out.trans (hw5.mono B4.out.size)
    clear hw5 D1 D2 BY
    go_wp2_with fail
    go_ret
    exact ⟨rfl, b5⟩
  · have t0 : decide ((64 : Int) < (kn' : Int)) = false := by simp; omega
    have hz2 := B2.out.size
    go_upto_region 7 with (at_builtin; (with_reducible apply wappN_any eltB); rfl; rfl; exact HK0.out; exact Own.empty w2 (Nat.le_refl _); exact ((HK.out.below (B2.out.alloc hz2 _) (Nat.le_refl _))); exact HKL.out; (rw [List.length_nil]; omega); (simp); intro v1 w3 o3 g3)
    rw [List.nil_append] at o3
    have b3 := below_grown ((Below.refl w2.heap.size w2).alloc (Nat.le_refl _) (.cells #[] 5)) g3 (Own.empty (e := 5) (k := .u8) w2 (Nat.le_refl _)) (Nat.le_refl _) (Nat.le_refl _)
    have o3' : Own 5 .u8 w3 w2.heap.size v1 (key' ++ List.replicate 0 0) := by rw [List.replicate_zero, List.append_nil]; exact o3
    obtain ⟨A3, c3, e3, _, _, _⟩ := o3.any
    rw [HKL.out] at e3
    subst e3
    have O3 := hid o3'
    have B3 := hid b3
    have hgl := C2.out.lt
    clear o3 o3' b3 g3 hz2
    go_wp2_with fail
    go_loopw [9, 10] (fun u v wr => ∃ (j m N : Nat) (Al : Option Addr) (cl : Nat), j ≤ more ∧ v = .int .i64 j ∧ u = .slice Al N cl ∧ Hid (N = kn' + m) ∧ N ≤ 64 ∧ Hid (Own 5 .u8 wr w2.heap.size u (key' ++ List.replicate m 0)) ∧ Hid (Below w2.heap.size w2 wr)) (fun _ v _ => more - (intOf v).toNat)
    case atStart => exact ⟨0, 0, kn', A3, c3, by omega, rfl, rfl, hid (by omega), by omega, O3, B3⟩
    case round =>
      clear O3 B3
      obtain ⟨j, m, N, Al, cl, hj, rfl, rfl, hN, hN64, ho, hb⟩ := hrel
      have hlenN : (key' ++ List.replicate m 0).length = N := by rw [List.length_append, List.length_replicate, HKL.out]; exact hN.out.symm
      have HLN := hid hlenN
      have hzw := hb.out.size
      have hkN : kn' ≤ N := by have := hN.out; omega
      clear hlenN
      by_cases hgo : j < more ∧ N < 64
      · obtain ⟨h1, h2⟩ := hgo
        have t1 : decide (j < more) = true := decide_eq_true h1
        have t2 : (N : Int) < 64 := by omega
        go_wp2_with (at_builtin; (with_reducible apply wappN eltB); rfl; rfl; exact ho.out.alloc _; exact nums_one (x := 0) (B := wr.heap.size + 1) rfl (Nat.lt_succ_self _); rfl; (rw [HLN.out]; omega); (simp; omega); intro v' w4 o4 g4)
        have b4 := below_grown (hb.out.alloc hzw (.cells #[.int .u8 0] 5)) g4 ho.out (Nat.le_refl _) (Nat.le_refl _)
        obtain ⟨A4, c4, e4, _, _, _⟩ := o4.any
        rw [List.length_append, HLN.out, List.length_singleton] at e4
        subst e4
        go_roundw
        case rel => exact ⟨j + 1, m + 1, N + 1, A4, c4, by omega, by go_num, rfl, hid (by have := hN.out; omega), by omega, hid (by rw [List.replicate_succ', ← List.append_assoc]; exact o4), hid b4⟩
        case measure => simp [intOf] <;> omega
      · have htag : HmM.tag (key' ++ List.replicate m 0) l' = T := by rw [HT.out, HmM.tag_zeros (by rw [HKL.out]; have := hN.out; omega)]
        have hlen256 : B256 (key' ++ List.replicate m 0) := HK2.out.append fun x hx => by rw [(List.mem_replicate.1 hx).2]; omega
        obtain ⟨A5, c5, e5, hc5, hm5, n5⟩ := ho.out.any
        rw [HLN.out] at e5 hc5
        simp only [Value.slice.injEq, true_and] at e5
        obtain ⟨rfl, rfl⟩ := e5
        have bw := B2.out.trans (hb.out.mono B2.out.size)
        have d1 := C2.out.below hb.out hgl
        have HTAG := hid htag
        have HL256 := hid hlen256
        have N5 := hid n5
        have BW := hid bw
        have D1 := hid d1
        have hzw2 := bw.size
        have HE := hid fun w => eq_tag_self T w
        have hgo2 : ¬ j < more ∨ ¬ N < 64 := by omega
        clear htag hlen256 n5 bw d1 ho C2 hgo
        have fin : ∀ (w5 : World), Below wr.heap.size wr w5 → Below w.heap.size w w5 := fun w5 h5 => BW.out.trans (h5.mono BW.out.size)
        have FIN := hid fin
        clear fin
        rcases hgo2 with h1 | h1
        · have t1 : decide (j < more) = false := decide_eq_false h1
          clear h1
          go_wp2_with fail
          refine wp_region_tail (C := fun w' => Below wr.heap.size wr w') 8 (by kernel_rfl) (by kernel_rfl) (by kernel_rfl) (Below.refl _ _).drew ?_
          simp only [List.take_succ_cons, List.take_zero, List.drop_succ_cons, List.drop_zero]
          apply wpK_val
          · rfl
          · intro w' hw'
            go_simp
            first | exact rfl | exact ⟨rfl, hw'⟩
          simp only [Act.put, List.setIfInBounds_toArray, List.set_cons_succ, List.set_cons_zero]
          apply wpK_val
          · rfl
          · intro w' hw'
            go_simp
            first | exact rfl | exact ⟨rfl, hw'⟩
          simp only [Act.put, List.setIfInBounds_toArray, List.set_cons_succ, List.set_cons_zero]
          apply wpK_val
          · rfl
          · intro w' hw'
            go_simp
            exact (hof_any Al (key' ++ List.replicate m 0) N cl HLN.out hc5 hm5 (by omega) HL256.out A l' n' cap HLL.out hc' hm HL2.out (by omega) _ ((N5.out.byt.below hw' (Nat.le_refl _)).more hw'.size) ((HA.out.below (BW.out.trans (hw'.mono BW.out.size)) (Nat.le_refl _)).more (Nat.le_trans BW.out.size hw'.size)) (SA.out.on (BW.out.trans (hw'.mono BW.out.size)))).mono fun e w'' ⟨he, hb''⟩ => ⟨he.trans (by rw [HTAG.out]), hw'.trans (hb''.mono hw'.size)⟩
          simp only [Act.put, List.setIfInBounds_toArray, List.set_cons_succ, List.set_cons_zero]
          apply klt
          · rfl
          · rfl
          · exact fun w' hw' => D1.out.below hw' (Nat.lt_of_lt_of_le hgl hzw)
          simp only [Act.put, List.setIfInBounds_toArray, List.set_cons_succ, List.set_cons_zero]
          apply wpK_val
          · rfl
          · intro w' hw'
            have h1 : _ := HE.out
            have h2 : _ := eqg_tag
            go_simp
            first | exact rfl | exact ⟨rfl, hw'⟩
          simp only [Act.put, List.setIfInBounds_toArray, List.set_cons_succ, List.set_cons_zero]
          apply wpK_val
          · rfl
          · intro w' hw'
            go_simp
            first | exact rfl | exact ⟨rfl, hw'⟩
          simp only [Act.put, List.setIfInBounds_toArray, List.set_cons_succ, List.set_cons_zero]
          apply wpK_val
          · rfl
          · intro w' hw'
            go_simp
            exact (works_any _ (SA.out.on (BW.out.trans (hw'.mono BW.out.size)))).mono fun e w'' ⟨he, hb''⟩ => ⟨he, hw'.trans (hb''.mono hw'.size)⟩
          simp only [Act.put, List.setIfInBounds_toArray, List.set_cons_succ, List.set_cons_zero]
          apply wpK_val
          · rfl
          · intro w' hw'
            go_simp
            first | exact rfl | exact ⟨rfl, hw'⟩
          simp only [Act.put, List.setIfInBounds_toArray, List.set_cons_succ, List.set_cons_zero]
          refine wpK_nil fun w5 hw5 => ?_
          have b5 := FIN.out w5 hw5
          clear hw5 D1
          go_wp2_with fail
          go_ret
          exact ⟨rfl, b5⟩
        · have t2 : decide ((N : Int) < 64) = false := by simp; omega
          clear h1
          by_cases h2 : j < more
          · have t1 : decide (j < more) = true := decide_eq_true h2
            clear h2
            go_wp2_with fail
            refine wp_region_tail (C := fun w' => Below wr.heap.size wr w') 8 (by kernel_rfl) (by kernel_rfl) (by kernel_rfl) (Below.refl _ _).drew ?_
            simp only [List.take_succ_cons, List.take_zero, List.drop_succ_cons, List.drop_zero]
            apply wpK_val
            · rfl
            · intro w' hw'
              go_simp
              first | exact rfl | exact ⟨rfl, hw'⟩
            simp only [Act.put, List.setIfInBounds_toArray, List.set_cons_succ, List.set_cons_zero]
            apply wpK_val
            · rfl
            · intro w' hw'
              go_simp
              first | exact rfl | exact ⟨rfl, hw'⟩
            simp only [Act.put, List.setIfInBounds_toArray, List.set_cons_succ, List.set_cons_zero]
            apply wpK_val
            · rfl
            · intro w' hw'
              go_simp
              exact (hof_any Al (key' ++ List.replicate m 0) N cl HLN.out hc5 hm5 (by omega) HL256.out A l' n' cap HLL.out hc' hm HL2.out (by omega) _ ((N5.out.byt.below hw' (Nat.le_refl _)).more hw'.size) ((HA.out.below (BW.out.trans (hw'.mono BW.out.size)) (Nat.le_refl _)).more (Nat.le_trans BW.out.size hw'.size)) (SA.out.on (BW.out.trans (hw'.mono BW.out.size)))).mono fun e w'' ⟨he, hb''⟩ => ⟨he.trans (by rw [HTAG.out]), hw'.trans (hb''.mono hw'.size)⟩
            simp only [Act.put, List.setIfInBounds_toArray, List.set_cons_succ, List.set_cons_zero]
            apply klt
            · rfl
            · rfl
            · exact fun w' hw' => D1.out.below hw' (Nat.lt_of_lt_of_le hgl hzw)
            simp only [Act.put, List.setIfInBounds_toArray, List.set_cons_succ, List.set_cons_zero]
            apply wpK_val
            · rfl
            · intro w' hw'
              have h1 : _ := HE.out
              have h2 : _ := eqg_tag
              go_simp
              first | exact rfl | exact ⟨rfl, hw'⟩
            simp only [Act.put, List.setIfInBounds_toArray, List.set_cons_succ, List.set_cons_zero]
            apply wpK_val
            · rfl
            · intro w' hw'
              go_simp
              first | exact rfl | exact ⟨rfl, hw'⟩
            simp only [Act.put, List.setIfInBounds_toArray, List.set_cons_succ, List.set_cons_zero]
            apply wpK_val
            · rfl
            · intro w' hw'
              go_simp
              exact (works_any _ (SA.out.on (BW.out.trans (hw'.mono BW.out.size)))).mono fun e w'' ⟨he, hb''⟩ => ⟨he, hw'.trans (hb''.mono hw'.size)⟩
            simp only [Act.put, List.setIfInBounds_toArray, List.set_cons_succ, List.set_cons_zero]
            apply wpK_val
            · rfl
            · intro w' hw'
              go_simp
              first | exact rfl | exact ⟨rfl, hw'⟩
            simp only [Act.put, List.setIfInBounds_toArray, List.set_cons_succ, List.set_cons_zero]
            refine wpK_nil fun w5 hw5 => ?_
            have b5 := FIN.out w5 hw5
            clear hw5 D1
            go_wp2_with fail
            go_ret
            exact ⟨rfl, b5⟩
          · have t1 : decide (j < more) = false := decide_eq_false h2
            clear h2
            go_wp2_with fail
            refine wp_region_tail (C := fun w' => Below wr.heap.size wr w') 8 (by kernel_rfl) (by kernel_rfl) (by kernel_rfl) (Below.refl _ _).drew ?_
            simp only [List.take_succ_cons, List.take_zero, List.drop_succ_cons, List.drop_zero]
            apply wpK_val
            · rfl
            · intro w' hw'
              go_simp
              first | exact rfl | exact ⟨rfl, hw'⟩
            simp only [Act.put, List.setIfInBounds_toArray, List.set_cons_succ, List.set_cons_zero]
            apply wpK_val
            · rfl
            · intro w' hw'
              go_simp
              first | exact rfl | exact ⟨rfl, hw'⟩
            simp only [Act.put, List.setIfInBounds_toArray, List.set_cons_succ, List.set_cons_zero]
            apply wpK_val
            · rfl
            · intro w' hw'
              go_simp
              exact (hof_any Al (key' ++ List.replicate m 0) N cl HLN.out hc5 hm5 (by omega) HL256.out A l' n' cap HLL.out hc' hm HL2.out (by omega) _ ((N5.out.byt.below hw' (Nat.le_refl _)).more hw'.size) ((HA.out.below (BW.out.trans (hw'.mono BW.out.size)) (Nat.le_refl _)).more (Nat.le_trans BW.out.size hw'.size)) (SA.out.on (BW.out.trans (hw'.mono BW.out.size)))).mono fun e w'' ⟨he, hb''⟩ => ⟨he.trans (by rw [HTAG.out]), hw'.trans (hb''.mono hw'.size)⟩
            simp only [Act.put, List.setIfInBounds_toArray, List.set_cons_succ, List.set_cons_zero]
            apply klt
            · rfl
            · rfl
            · exact fun w' hw' => D1.out.below hw' (Nat.lt_of_lt_of_le hgl hzw)
            simp only [Act.put, List.setIfInBounds_toArray, List.set_cons_succ, List.set_cons_zero]
            apply wpK_val
            · rfl
            · intro w' hw'
              have h1 : _ := HE.out
              have h2 : _ := eqg_tag
              go_simp
              first | exact rfl | exact ⟨rfl, hw'⟩
            simp only [Act.put, List.setIfInBounds_toArray, List.set_cons_succ, List.set_cons_zero]
            apply wpK_val
            · rfl
            · intro w' hw'
              go_simp
              first | exact rfl | exact ⟨rfl, hw'⟩
            simp only [Act.put, List.setIfInBounds_toArray, List.set_cons_succ, List.set_cons_zero]
            apply wpK_val
            · rfl
            · intro w' hw'
              go_simp
              exact (works_any _ (SA.out.on (BW.out.trans (hw'.mono BW.out.size)))).mono fun e w'' ⟨he, hb''⟩ => ⟨he, hw'.trans (hb''.mono hw'.size)⟩
            simp only [Act.put, List.setIfInBounds_toArray, List.set_cons_succ, List.set_cons_zero]
            apply wpK_val
            · rfl
            · intro w' hw'
              go_simp
              first | exact rfl | exact ⟨rfl, hw'⟩
            simp only [Act.put, List.setIfInBounds_toArray, List.set_cons_succ, List.set_cons_zero]
            refine wpK_nil fun w5 hw5 => ?_
            have b5 := FIN.out w5 hw5
            clear hw5 D1
            go_wp2_with fail
            go_ret
            exact ⟨rfl, b5⟩
end Go.Proofs.YtfgmgfniolmpkaaDoor
