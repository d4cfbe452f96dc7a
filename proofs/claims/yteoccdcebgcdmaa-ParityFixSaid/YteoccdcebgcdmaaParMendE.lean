/-
  The contract of parity.mendData: the walk.
-/
import Derived.Test.YteoccdcebgcdmaaParMendD
import Derived.Test.YteoccdcebgcdmaaParTwo
namespace Go.Proofs.Yteoccdcebgcdmaa
open Go.ChangeShapes Go.WideShapes Go.ChangeAt Go.RowKit
attribute [local go_sem] Gives
set_option maxRecDepth 100000 in
set_option maxHeartbeats 3000000 in
theorem mendD_any (B g m cap h : Nat) (F : Nat → Nat → Nat) (M : Nat → Bool) (hF : ∀ i k, F i k < 256) (h1 : 1 ≤ m) (h2 : m ≤ 62) (hM2 : (gapsL m M).length ≤ 2) (w : World) (ho : OwnS w B (.slice (some ⟨g, 0, none⟩) (m + 2) cap) (m + 2) F)
    (hM : Blk w h 72 (row 64 fun j => .bool (M j))) :
    Calls Try.prog 33 #[.slice (some ⟨g, 0, none⟩) (m + 2) cap, .func (.func 44) #[] #[.pointer (some ⟨h, 0, none⟩)]] w (MendPost w B g (m + 2) cap h (mendD m M F) M) := by
  have HF := hid hF
  have HO := hid ho
  have HM := hid hM
  have HG := hid hM2
  obtain ⟨hg1, hg2, hg3⟩ := own_lt ho
  have hne := own_ne ho hM (by decide)
  have hh := hM.lt
  clear hF ho hM hM2
  go_enter Try.func33, Try.ntmps33
  go_wp2_with fail
  refine (places_any (some ⟨g, 0, none⟩) m cap (by omega) _).mono ?_
  rintro e w' ⟨rfl, rfl⟩
  go_wp2_with fail
  go_loopw [6, 20] (fun v i wr => ∃ j : Nat, j ≤ m ∧ i = .int .i64 j ∧ OwnI wr w.heap.size v (gapsL j M) ∧ OwnS wr B (.slice (some ⟨g, 0, none⟩) (m + 2) cap) (m + 2) (zeroed j M F) ∧ Blk wr h 72 (row 64 fun j => .bool (M j)) ∧ w.grownBy wr (some g)) (fun _ i _ => m - (intOf i).toNat)
  case atStart => exact ⟨0, by omega, rfl, World.ownsRow_nil w _ _ _, HO.out.mono (fun i k _ _ => by simp [zeroed]), HM.out, only_refl w g⟩
  case round =>
    obtain ⟨j, hj, rfl, gp, o1, b1, g1⟩ := hrel
    by_cases hlt : j < m
    · have O1 := HID o1
      have GP := HID gp
      have hle := gapsL_le j M
      clear o1 gp
      go_wp2_with fail
      refine (lost_any h j M (by omega) _ b1).mono ?_
      rintro e w' ⟨rfl, rfl⟩
      cases eM : M j with
      | false =>
        have e1 := gapsL_no eM
        have e2 := zeroed_no (F := F) eM
        have HN : RowKit.Hid (gapsL (j + 1) M = gapsL j M ∧ zeroed (j + 1) M F = zeroed j M F) := hid ⟨e1, e2⟩
        clear e1 e2
        go_wp2_with fail
        refine ⟨⟨j + 1, by omega, by go_num, ?_, ?_, b1, g1⟩, by simp [intOf]; omega⟩
        · rw [HN.out.1]; exact GP.out
        · rw [HN.out.2]; exact O1.out
      | true =>
        have HN : RowKit.Hid (gapsL (j + 1) M = gapsL j M ++ [j]) := hid (gapsL_yes eM)
        have HZ : RowKit.Hid (∀ i k, i < m + 2 → k < 64 → zeroed (j + 1) M F i k = upd (zeroed j M F) j (fun _ => 0) i k) := hid fun i k _ _ => zeroed_yes eM
        clear eM
        have tm : (j : Int) < (m : Int) + 2 := by omega
        go_upto_region 7 with (first | (with_reducible apply bsec) | ((with_reducible apply sto (i := j)); (simp only [Nat.zero_add]; rfl); rfl; exact O1.out; omega; intro w6 o6 g6))
        have gp6 := GP.out.only g6 hg1
        have b6 := b1.only g6 hne
        have g7 := only_trans g1 g6
        have O6 := HID (o6.mono HZ.out)
        have GP6 := HID gp6
        have hs6 : w.heap.size ≤ w6.heap.size := g7.size
        clear O1 GP o6 gp6 g6 g1 b1 HZ tm
        go_upto_region 8 with ((with_reducible apply wappi (y := j)); rfl; rfl; exact World.ownsRow.alloc GP6.out _; simp; omega; (simp; omega); intro v' w7 gp7 g8)
        have hk1 : ∀ x, u6.ownBlock = some x → w.heap.size ≤ x := fun x e => (GP6.out.lt x e).1
        have o7 : OwnS w7 B (.slice (some ⟨g, 0, none⟩) (m + 2) cap) (m + 2) (zeroed (j + 1) M F) := OwnS.kept (World.ownsRow.alloc O6.out _) g8 (.inr (fun e => by have := hk1 g e.symm; omega))
        have b7 := (b6.alloc (.cells #[.int .i64 j] 3)).grown g8 (fun x e => by have := hk1 x e; omega)
        have g9 := only_grown (only_below g7 ((Below.refl w6.heap.size w6).alloc (Nat.le_refl _) _) hs6) g8 hk1
        rw [← HN.out] at gp7
        clear GP6 O6 b6 g7 g8 hk1
        go_wp2_with fail
        exact ⟨⟨j + 1, by omega, by go_num, gp7, o7, b7, g9⟩, by simp [intOf]; omega⟩
    · obtain rfl : m = j := by omega
      have hfilt : ∀ x, x ∈ gapsL m M → x < m ∧ M x = true := fun x hx => by
        unfold gapsL at hx
        rw [List.mem_filter, List.mem_range] at hx
        exact hx
      have hlen := HG.out
      have HS : RowKit.Hid (Secs wr wr.heap.size (some ⟨g, 0, none⟩) m (zeroed m M F)) := hid fun _ => ⟨g, 0, rfl, by have := g1.size; omega, fun i hi => own_range o1 (by omega)⟩
      have O1 := HID o1
      clear o1
      cases hgl : gapsL m M with
      | nil =>
        have HN : RowKit.Hid (mendD m M F = zeroed m M F) := hid (by unfold mendD; rw [hgl])
        rw [hgl] at gp
        obtain ⟨A, c, rfl⟩ := OwnI.len gp
        clear hgl gp hfilt hlen HS
        go_wp2_with fail
        refine bodyPost_ret (results_none Try.results33 _ _ _) rfl ?_
        exact ⟨rfl, by rw [HN.out]; exact O1.out, b1, g1⟩
      | cons x t =>
        have hx := hfilt x (by rw [hgl]; exact List.mem_cons_self ..)
        obtain ⟨hx, hMx⟩ := hx
        cases t with
        | nil =>
          rw [hgl] at gp
          obtain ⟨gg, cg, rfl, _⟩ := OwnI.get gp (j := 0) (by simp)
          have GP := HID gp
          have HN : RowKit.Hid (mendD m M F = upd (zeroed m M F) x (if M m then fun k => GfM.mul (pwI (-(x : Int))) (wei m M F k) else mis m M F)) := hid (by unfold mendD; rw [hgl])
          clear hgl gp hfilt hlen hMx
          go_wp2_with fail
          refine (sums_any (some ⟨g, 0, none⟩) m cap (zeroed m M F) (zeroed_lt HF.out) (by omega) _ HS.out).mono ?_
          rintro e w4 ⟨rfl, hb⟩
          have hs4 := hb.size
          go_upto_region 11 with (first | ((with_reducible apply stx); rfl; rfl; exact (Blk.top zlit rfl).alloc _) | ((with_reducible apply stx); rfl; rfl; exact (Blk.top zlit (by simp)).setRow_other (by omega) _))
          generalize hw5 : World.setRow (World.setRow (World.alloc (World.alloc w4 _) _) _ _) _ _ = w5
          have p1 : Blk w5 w4.heap.size 25 (sec (PP (zeroed m M F) m)) := by rw [← hw5]; exact (((Blk.top zlit rfl).alloc _).setRow_same _).setRow_other (by omega) _
          have p2 : Blk w5 (w4.heap.size + 1) 25 (sec (QQ (zeroed m M F) m)) := by rw [← hw5]; exact ((Blk.top zlit (by simp)).setRow_other (by omega) _).setRow_same _
          have hc : Below w4.heap.size w4 w5 := by rw [← hw5]; exact below_setRow (below_setRow (((Below.refl _ _).alloc (Nat.le_refl _) _).alloc (by simp) _) (Nat.le_refl _) _) (by omega) _
          have hd : Below wr.heap.size wr w5 := hb.trans (hc.mono hs4)
          have O5 := HID (OwnS.below O1.out hd (Nat.le_refl _))
          have G5 := HID (OwnI.below GP.out hd (Nat.le_refl _))
          have b5 := b1.below hd b1.lt
          have g5 : w.grownBy w5 (some g) := only_below g1 hd g1.size
          have rP := own_range O5.out (i := m) (by omega)
          have rQ := own_range O5.out (i := m + 1) (by omega)
          have hgw : g < w5.heap.size := by have := g5.size; omega
          clear hw5 hc hb hd O1 GP b1 g1 HS
          rw [Nat.zero_add] at rP rQ
          have tm : (m : Int) < (m : Int) + 2 := by omega
          have tm1 : (m : Int) + 1 < (m : Int) + 2 := by omega
          have hz5 : ∀ i k, zeroed m M F i k < 256 := zeroed_lt HF.out
          have HZ := hid hz5
          clear hz5
          refine wp_region_new2 (C := fun w' => Below w5.heap.size w5 w') 12 25 (sec fun _ => 0) 10 11 rfl rfl (by kernel_rfl) (by kernel_rfl) (by kernel_rfl) alloc_sec (Below.refl _ _).drew (fun w' hw' => hw'.alloc hw'.size _) (fun w' hw' => hw'.size) ?_
          simp only [List.take_succ_cons, List.take_zero, List.drop_succ_cons, List.drop_zero]
          apply bld
          · rfl
          · rfl
          · exact fun w' hw' => p1.below hw' p1.lt
          simp only [Act.put, List.setIfInBounds_toArray, List.set_cons_succ, List.set_cons_zero]
          apply wpB_val
          · rfl
          · intro w' hw'
            have hbl := Below.refl w'.heap.size w'
            go_simp
            first | exact rfl | exact ⟨rfl, hbl⟩ | exact ⟨rfl, hw', hbl⟩
          simp only [Act.put, List.setIfInBounds_toArray, List.set_cons_succ, List.set_cons_zero]
          apply wpB_val
          · rfl
          · intro w' hw'
            have hbl := Below.refl w'.heap.size w'
            go_simp
            first | exact rfl | exact ⟨rfl, hbl⟩ | exact ⟨rfl, hw', hbl⟩
          simp only [Act.put, List.setIfInBounds_toArray, List.set_cons_succ, List.set_cons_zero]
          apply wpB_val
          · rfl
          · intro w' hw'
            have hbl := Below.refl w'.heap.size w'
            go_simp
            first | exact rfl | exact ⟨rfl, hbl⟩ | exact ⟨rfl, hw', hbl⟩
          simp only [Act.put, List.setIfInBounds_toArray, List.set_cons_succ, List.set_cons_zero]
          apply bldm
          · rfl
          · rfl
          · exact fun w' hw' => rangeAt_below rP hw' hgw
          simp only [Act.put, List.setIfInBounds_toArray, List.set_cons_succ, List.set_cons_zero]
          apply wpB_val
          · rfl
          · intro w' hw'
            go_simp
            exact (add_any _ _ (PP_lt HZ.out m) (HZ.out m) _).mono fun e w'' ⟨he, hb'⟩ => ⟨he, hw'.trans (hb'.mono hw'.size), hb'⟩
          simp only [Act.put, List.setIfInBounds_toArray, List.set_cons_succ, List.set_cons_zero]
          apply bld
          · rfl
          · rfl
          · exact fun w' hw' => p2.below hw' p2.lt
          simp only [Act.put, List.setIfInBounds_toArray, List.set_cons_succ, List.set_cons_zero]
          apply wpB_val
          · rfl
          · intro w' hw'
            have hbl := Below.refl w'.heap.size w'
            go_simp
            first | exact rfl | exact ⟨rfl, hbl⟩ | exact ⟨rfl, hw', hbl⟩
          simp only [Act.put, List.setIfInBounds_toArray, List.set_cons_succ, List.set_cons_zero]
          apply wpB_val
          · rfl
          · intro w' hw'
            have hbl := Below.refl w'.heap.size w'
            go_simp
            first | exact rfl | exact ⟨rfl, hbl⟩ | exact ⟨rfl, hw', hbl⟩
          simp only [Act.put, List.setIfInBounds_toArray, List.set_cons_succ, List.set_cons_zero]
          apply wpB_val
          · rfl
          · intro w' hw'
            have hbl := Below.refl w'.heap.size w'
            go_simp
            first | exact rfl | exact ⟨rfl, hbl⟩ | exact ⟨rfl, hw', hbl⟩
          simp only [Act.put, List.setIfInBounds_toArray, List.set_cons_succ, List.set_cons_zero]
          apply bldm
          · rfl
          · rfl
          · exact fun w' hw' => rangeAt_below rQ hw' hgw
          simp only [Act.put, List.setIfInBounds_toArray, List.set_cons_succ, List.set_cons_zero]
          apply wpB_val
          · rfl
          · intro w' hw'
            go_simp
            exact (add_any _ _ (QQ_lt m) (HZ.out (m + 1)) _).mono fun e w'' ⟨he, hb'⟩ => ⟨he, hw'.trans (hb'.mono hw'.size), hb'⟩
          simp only [Act.put, List.setIfInBounds_toArray, List.set_cons_succ, List.set_cons_zero]
          refine wpB_nil fun c1 c2 w6 hcc hw6 q1 q2 hc1 hc2 => ?_
          have eM1 : (fun k => PP (zeroed m M F) m k ^^^ zeroed m M F m k) = mis m M F := by funext k; unfold mis; rw [zeroed_out (Nat.le_refl m)]
          have eW1 : (fun k => QQ (zeroed m M F) m k ^^^ zeroed m M F (m + 1) k) = wei m M F := by funext k; unfold wei; rw [zeroed_out (Nat.le_succ m)]
          rw [eM1, eW1]
          have hgs := g5.size
          clear eM1 eW1 rP rQ p1 p2 tm tm1
          simp only [Act.put, List.setIfInBounds_toArray, List.set_cons_succ, List.set_cons_zero, ptr]
          go_upto_region 12 with (first | ((with_reducible apply stx); rfl; rfl; exact q1) | ((with_reducible apply stx); rfl; rfl; exact q2.setRow_other hcc _))
          generalize hw7 : World.setRow (World.setRow w6 _ _) _ _ = w7
          have r1 : Blk w7 c1 25 (sec (mis m M F)) := by rw [← hw7]; exact (q1.setRow_same _).setRow_other (Ne.symm hcc) _
          have r2 : Blk w7 c2 25 (sec (wei m M F)) := by rw [← hw7]; exact (q2.setRow_other hcc _).setRow_same _
          have hd : Below w5.heap.size w6 w7 := by rw [← hw7]; exact below_setRow (below_setRow (Below.refl _ _) hc1 _) hc2 _
          have hd5 := hw6.trans hd
          have O7 := HID (OwnS.below O5.out hd5 (Nat.le_refl _))
          have G7 := HID (OwnI.below G5.out hd5 (Nat.le_refl _))
          have b7 := b5.below hd5 b5.lt
          have g7 : w.grownBy w7 (some g) := only_below g5 hd5 g5.size
          have hw7s : w5.heap.size ≤ w7.heap.size := hd5.size
          clear hw7 hd hd5 hw6 q1 q2 O5 G5 b5 g5
          have k0 := OwnI.cell G7.out (i := 0) (by simp)
          go_wp2_with fail
          refine (lost_any h m M (by omega) _ b7).mono ?_
          rintro e w8 ⟨rfl, rfl⟩
          cases eM : M m with
          | false =>
            rw [eM] at HN
            have tm : (x : Int) < (m : Int) + 2 := by omega
            go_wp2_with (first | ((with_reducible apply ld); rfl; exact r1) | ((with_reducible apply sto (i := x)); (simp only [Nat.zero_add]; rfl); rfl; exact O7.out; omega; intro w8 o8 g8))
            refine bodyPost_end (results_none Try.results33 _ _ _) rfl ?_
            exact ⟨rfl, o8.mono fun i k _ _ => by rw [HN.out, if_neg (by decide)], b7.only g8 hne, only_trans g7 g8⟩
          | true =>
            rw [eM] at HN
            have g7s := g7.size
            have hgw7 : g < w7.heap.size := by omega
            have hwl : ∀ k, wei m M F k < 256 := fun k => GfM.xor_lt (QQ_lt m k) (HF.out (m + 1) k)
            have hwr : IntKind.i64.wrap (-(x : Int)) = -(x : Int) := by rw [IntKind.wrap_i64]; omega
            go_upto_region 18 with (fail)
            refine wp_region_tail (C := fun w' => Below w7.heap.size w7 w') 8 (by kernel_rfl) (by kernel_rfl) (by kernel_rfl) (Below.refl _ _).drew ?_
            simp only [List.take_succ_cons, List.take_zero, List.drop_succ_cons, List.drop_zero]
            apply wpK_val
            · rfl
            · intro w' hw'
              go_simp
              first | exact rfl | exact ⟨rfl, hw'⟩
            simp only [Act.put, List.setIfInBounds_toArray, List.set_cons_succ, List.set_cons_zero]
            apply wpK_val
            · rfl
            · intro w' hw'
              go_simp
              first | exact rfl | exact ⟨rfl, hw'⟩
            simp only [Act.put, List.setIfInBounds_toArray, List.set_cons_succ, List.set_cons_zero]
            apply wpK_val
            · rfl
            · intro w' hw'
              go_simp
              first | exact rfl | exact ⟨rfl, hw'⟩
            simp only [Act.put, List.setIfInBounds_toArray, List.set_cons_succ, List.set_cons_zero]
            apply wpK_val
            · rfl
            · intro w' hw'
              have hw1 : IntKind.i64.wrap (-(x : Int)) = -(x : Int) := hwr
              go_simp
              first | exact rfl | exact ⟨rfl, hw'⟩
            simp only [Act.put, List.setIfInBounds_toArray, List.set_cons_succ, List.set_cons_zero]
            apply wpK_val
            · rfl
            · intro w' hw'
              go_simp
              exact (pow_any _ _).mono fun e w'' ⟨he, hb'⟩ => ⟨he, by subst hb'; exact hw'⟩
            simp only [Act.put, List.setIfInBounds_toArray, List.set_cons_succ, List.set_cons_zero]
            apply kld
            · rfl
            · rfl
            · exact fun w' hw' => r2.below hw' r2.lt
            simp only [Act.put, List.setIfInBounds_toArray, List.set_cons_succ, List.set_cons_zero]
            apply wpK_val
            · rfl
            · intro w' hw'
              go_simp
              exact (scale_any _ _ (pwI_lt _) hwl _).mono fun e w'' ⟨he, hb'⟩ => ⟨he, hw'.trans (hb'.mono hw'.size)⟩
            simp only [Act.put, List.setIfInBounds_toArray, List.set_cons_succ, List.set_cons_zero]
            apply wpK_val
            · rfl
            · intro w' hw'
              have tm : (x : Int) < (m : Int) + 2 := by omega
              go_simp
              first | exact rfl | exact ⟨rfl, hw'⟩
            simp only [Act.put, List.setIfInBounds_toArray, List.set_cons_succ, List.set_cons_zero]
            refine wpK_nil fun w9 hw9 => ?_
            have O9 := HID (OwnS.below O7.out hw9 (Nat.le_refl _))
            have b9 := b7.below hw9 b7.lt
            have g9 : w.grownBy w9 (some g) := only_below g7 hw9 g7s
            clear O7 b7 g7 r1 r2 G7
            go_wp2_with ((with_reducible apply sto (i := x)); (simp only [Nat.zero_add]; rfl); rfl; exact O9.out; omega; intro w8 o8 g8)
            refine bodyPost_end (results_none Try.results33 _ _ _) rfl ?_
            exact ⟨rfl, o8.mono fun i k _ _ => by rw [HN.out]; rfl, b9.only g8 hne, only_trans g9 g8⟩
        | cons y t =>
          have hy := hfilt y (by rw [hgl]; exact List.mem_cons_of_mem _ (List.mem_cons_self ..))
          obtain ⟨hy, hMy⟩ := hy
          have hnd : (gapsL m M).Nodup := List.nodup_range.filter _
          have hxy : x ≠ y := by
            rw [hgl] at hnd
            intro e
            subst e
            exact (List.nodup_cons.mp hnd).1 (List.mem_cons_self ..)
          obtain rfl : [] = t := by
            rw [hgl] at hlen
            match t, hlen with
            | [], _ => rfl
            | z :: t, hlen => simp at hlen
          rw [hgl] at gp
          obtain ⟨gg, cg, rfl, _⟩ := OwnI.get gp (j := 0) (by simp)
          have GP := HID gp
          have HN : RowKit.Hid (mendD m M F = upd (upd (zeroed m M F) x (twoX x y (mis m M F) (wei m M F))) y (twoY x y (mis m M F) (wei m M F))) := hid (by unfold mendD; rw [hgl])
          clear hgl gp hfilt hlen hMx hMy hnd
          go_wp2_with fail
          refine (sums_any (some ⟨g, 0, none⟩) m cap (zeroed m M F) (zeroed_lt HF.out) (by omega) _ HS.out).mono ?_
          rintro e w4 ⟨rfl, hb⟩
          have hs4 := hb.size
          go_upto_region 11 with (first | ((with_reducible apply stx); rfl; rfl; exact (Blk.top zlit rfl).alloc _) | ((with_reducible apply stx); rfl; rfl; exact (Blk.top zlit (by simp)).setRow_other (by omega) _))
          generalize hw5 : World.setRow (World.setRow (World.alloc (World.alloc w4 _) _) _ _) _ _ = w5
          have p1 : Blk w5 w4.heap.size 25 (sec (PP (zeroed m M F) m)) := by rw [← hw5]; exact (((Blk.top zlit rfl).alloc _).setRow_same _).setRow_other (by omega) _
          have p2 : Blk w5 (w4.heap.size + 1) 25 (sec (QQ (zeroed m M F) m)) := by rw [← hw5]; exact ((Blk.top zlit (by simp)).setRow_other (by omega) _).setRow_same _
          have hc : Below w4.heap.size w4 w5 := by rw [← hw5]; exact below_setRow (below_setRow (((Below.refl _ _).alloc (Nat.le_refl _) _).alloc (by simp) _) (Nat.le_refl _) _) (by omega) _
          have hd : Below wr.heap.size wr w5 := hb.trans (hc.mono hs4)
          have O5 := HID (OwnS.below O1.out hd (Nat.le_refl _))
          have G5 := HID (OwnI.below GP.out hd (Nat.le_refl _))
          have b5 := b1.below hd b1.lt
          have g5 : w.grownBy w5 (some g) := only_below g1 hd g1.size
          have rP := own_range O5.out (i := m) (by omega)
          have rQ := own_range O5.out (i := m + 1) (by omega)
          have hgw : g < w5.heap.size := by have := g5.size; omega
          clear hw5 hc hb hd O1 GP b1 g1 HS
          rw [Nat.zero_add] at rP rQ
          have tm : (m : Int) < (m : Int) + 2 := by omega
          have tm1 : (m : Int) + 1 < (m : Int) + 2 := by omega
          have hz5 : ∀ i k, zeroed m M F i k < 256 := zeroed_lt HF.out
          have HZ := hid hz5
          clear hz5
          refine wp_region_new2 (C := fun w' => Below w5.heap.size w5 w') 12 25 (sec fun _ => 0) 10 11 rfl rfl (by kernel_rfl) (by kernel_rfl) (by kernel_rfl) alloc_sec (Below.refl _ _).drew (fun w' hw' => hw'.alloc hw'.size _) (fun w' hw' => hw'.size) ?_
          simp only [List.take_succ_cons, List.take_zero, List.drop_succ_cons, List.drop_zero]
          apply bld
          · rfl
          · rfl
          · exact fun w' hw' => p1.below hw' p1.lt
          simp only [Act.put, List.setIfInBounds_toArray, List.set_cons_succ, List.set_cons_zero]
          apply wpB_val
          · rfl
          · intro w' hw'
            have hbl := Below.refl w'.heap.size w'
            go_simp
            first | exact rfl | exact ⟨rfl, hbl⟩ | exact ⟨rfl, hw', hbl⟩
          simp only [Act.put, List.setIfInBounds_toArray, List.set_cons_succ, List.set_cons_zero]
          apply wpB_val
          · rfl
          · intro w' hw'
            have hbl := Below.refl w'.heap.size w'
            go_simp
            first | exact rfl | exact ⟨rfl, hbl⟩ | exact ⟨rfl, hw', hbl⟩
          simp only [Act.put, List.setIfInBounds_toArray, List.set_cons_succ, List.set_cons_zero]
          apply wpB_val
          · rfl
          · intro w' hw'
            have hbl := Below.refl w'.heap.size w'
            go_simp
            first | exact rfl | exact ⟨rfl, hbl⟩ | exact ⟨rfl, hw', hbl⟩
          simp only [Act.put, List.setIfInBounds_toArray, List.set_cons_succ, List.set_cons_zero]
          apply bldm
          · rfl
          · rfl
          · exact fun w' hw' => rangeAt_below rP hw' hgw
          simp only [Act.put, List.setIfInBounds_toArray, List.set_cons_succ, List.set_cons_zero]
          apply wpB_val
          · rfl
          · intro w' hw'
            go_simp
            exact (add_any _ _ (PP_lt HZ.out m) (HZ.out m) _).mono fun e w'' ⟨he, hb'⟩ => ⟨he, hw'.trans (hb'.mono hw'.size), hb'⟩
          simp only [Act.put, List.setIfInBounds_toArray, List.set_cons_succ, List.set_cons_zero]
          apply bld
          · rfl
          · rfl
          · exact fun w' hw' => p2.below hw' p2.lt
          simp only [Act.put, List.setIfInBounds_toArray, List.set_cons_succ, List.set_cons_zero]
          apply wpB_val
          · rfl
          · intro w' hw'
            have hbl := Below.refl w'.heap.size w'
            go_simp
            first | exact rfl | exact ⟨rfl, hbl⟩ | exact ⟨rfl, hw', hbl⟩
          simp only [Act.put, List.setIfInBounds_toArray, List.set_cons_succ, List.set_cons_zero]
          apply wpB_val
          · rfl
          · intro w' hw'
            have hbl := Below.refl w'.heap.size w'
            go_simp
            first | exact rfl | exact ⟨rfl, hbl⟩ | exact ⟨rfl, hw', hbl⟩
          simp only [Act.put, List.setIfInBounds_toArray, List.set_cons_succ, List.set_cons_zero]
          apply wpB_val
          · rfl
          · intro w' hw'
            have hbl := Below.refl w'.heap.size w'
            go_simp
            first | exact rfl | exact ⟨rfl, hbl⟩ | exact ⟨rfl, hw', hbl⟩
          simp only [Act.put, List.setIfInBounds_toArray, List.set_cons_succ, List.set_cons_zero]
          apply bldm
          · rfl
          · rfl
          · exact fun w' hw' => rangeAt_below rQ hw' hgw
          simp only [Act.put, List.setIfInBounds_toArray, List.set_cons_succ, List.set_cons_zero]
          apply wpB_val
          · rfl
          · intro w' hw'
            go_simp
            exact (add_any _ _ (QQ_lt m) (HZ.out (m + 1)) _).mono fun e w'' ⟨he, hb'⟩ => ⟨he, hw'.trans (hb'.mono hw'.size), hb'⟩
          simp only [Act.put, List.setIfInBounds_toArray, List.set_cons_succ, List.set_cons_zero]
          refine wpB_nil fun c1 c2 w6 hcc hw6 q1 q2 hc1 hc2 => ?_
          have eM1 : (fun k => PP (zeroed m M F) m k ^^^ zeroed m M F m k) = mis m M F := by funext k; unfold mis; rw [zeroed_out (Nat.le_refl m)]
          have eW1 : (fun k => QQ (zeroed m M F) m k ^^^ zeroed m M F (m + 1) k) = wei m M F := by funext k; unfold wei; rw [zeroed_out (Nat.le_succ m)]
          rw [eM1, eW1]
          have hgs := g5.size
          clear eM1 eW1 rP rQ p1 p2 tm tm1
          simp only [Act.put, List.setIfInBounds_toArray, List.set_cons_succ, List.set_cons_zero, ptr]
          go_upto_region 12 with (first | ((with_reducible apply stx); rfl; rfl; exact q1) | ((with_reducible apply stx); rfl; rfl; exact q2.setRow_other hcc _))
          generalize hw7 : World.setRow (World.setRow w6 _ _) _ _ = w7
          have r1 : Blk w7 c1 25 (sec (mis m M F)) := by rw [← hw7]; exact (q1.setRow_same _).setRow_other (Ne.symm hcc) _
          have r2 : Blk w7 c2 25 (sec (wei m M F)) := by rw [← hw7]; exact (q2.setRow_other hcc _).setRow_same _
          have hd : Below w5.heap.size w6 w7 := by rw [← hw7]; exact below_setRow (below_setRow (Below.refl _ _) hc1 _) hc2 _
          have hd5 := hw6.trans hd
          have O7 := HID (OwnS.below O5.out hd5 (Nat.le_refl _))
          have G7 := HID (OwnI.below G5.out hd5 (Nat.le_refl _))
          have b7 := b5.below hd5 b5.lt
          have g7 : w.grownBy w7 (some g) := only_below g5 hd5 g5.size
          have hw7s : w5.heap.size ≤ w7.heap.size := hd5.size
          clear hw7 hd hd5 hw6 q1 q2 O5 G5 b5 g5
          have k0 := OwnI.cell G7.out (i := 0) (by simp)
          have k1 := OwnI.cell G7.out (i := 1) (by simp)
          go_upto_region 16 with (fail)
          have hml : ∀ k, mis m M F k < 256 := fun k => GfM.xor_lt (PP_lt (zeroed_lt HF.out) m k) (HF.out m k)
          have hwl : ∀ k, wei m M F k < 256 := fun k => GfM.xor_lt (QQ_lt m k) (HF.out (m + 1) k)
          go_wp2_with (first | ((with_reducible apply ld); rfl; exact r1) | ((with_reducible apply ld); rfl; exact r2))
          refine (two_any x y _ _ (by omega) (by omega) hxy hml hwl _).mono ?_
          rintro e w9 ⟨rfl, hb9⟩
          have O9 := HID (OwnS.below O7.out hb9 (Nat.le_refl _))
          have b9 := b7.below hb9 b7.lt
          have g9 : w.grownBy w9 (some g) := only_below g7 hb9 g7.size
          have tx : (x : Int) < (m : Int) + 2 := by omega
          have ty' : (y : Int) < (m : Int) + 2 := by omega
          clear O7 b7 g7 r1 r2 G7
          go_wp2_with (first | ((with_reducible apply sto (i := x)); (simp only [Nat.zero_add]; rfl); rfl; exact O9.out; omega; intro w8 o8 g8) | ((with_reducible apply sto (i := y)); (simp only [Nat.zero_add]; rfl); rfl; assumption; omega; intro w10 o10 g10))
          refine bodyPost_end (results_none Try.results33 _ _ _) rfl ?_
          exact ⟨rfl, o10.mono fun i k _ _ => by rw [HN.out], (b9.only g8 hne).only g10 hne, only_trans g9 (only_trans g8 g10)⟩
end Go.Proofs.Yteoccdcebgcdmaa
