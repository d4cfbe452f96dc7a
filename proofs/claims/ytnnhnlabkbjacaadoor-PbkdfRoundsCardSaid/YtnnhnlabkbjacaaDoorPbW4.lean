/-
  The walk of PbkdfRounds.
-/
import Derived.Test.YtnnhnlabkbjacaaDoorPbW1
namespace Go.Proofs.YtnnhnlabkbjacaaDoor
open Go.ChangeShapes Go.WideShapes Go.ChangeAt Go.RowKit
attribute [local go_sem] Gives
set_option maxHeartbeats 400000 in
set_option maxRecDepth 100000 in
theorem rounds_long (K : Option Addr) (kn kcap : Nat) (A : Option Addr) (n cap : Nat) (h : 2000 < kn ∨ 2000 < n) (w : World) (hS : Salts w) :
    Calls Tryd.prog 8 #[.slice K kn kcap, .slice A n cap] w fun e w' => e = .returned (.bool true) ∧ Below w.heap.size w w' := by
  have SA := hid hS
  clear hS
  go_enter Tryd.func8, Tryd.ntmps8
  by_cases h1 : 2000 < kn
  · have t1 : decide ((2000 : Int) < (kn : Int)) = true := decide_eq_true (by omega)
    clear h h1
    go_wp2_with fail
    refine (awake_any w SA.out).mono ?_
    rintro e w1 ⟨rfl, h1⟩
    go_wp2_with fail
    go_ret
    exact ⟨rfl, h1⟩
  · have t1 : decide ((2000 : Int) < (kn : Int)) = false := decide_eq_false (by omega)
    have t2 : decide ((2000 : Int) < (n : Int)) = true := decide_eq_true (by omega)
    clear h h1
    go_wp2_with fail
    refine (awake_any w SA.out).mono ?_
    rintro e w1 ⟨rfl, h1⟩
    go_wp2_with fail
    go_ret
    exact ⟨rfl, h1⟩
set_option maxHeartbeats 1000000 in
set_option maxRecDepth 100000 in
theorem rounds_law (K : Option Addr) (key : List Nat) (kn kcap : Nat) (A : Option Addr) (l : List Nat) (n cap : Nat) (w : World) (hK : Arg w K key kn kcap) (hA : Arg w A l n cap) (hS : Salts w) :
    Calls Tryd.prog 8 #[.slice K kn kcap, .slice A n cap] w fun e w' => e = .returned (.bool true) ∧ Below w.heap.size w w' := by
  by_cases hlong : 2000 < kn ∨ 2000 < n
  · exact rounds_long K kn kcap A n cap hlong w hS
  have SA := hid hS
  have HK := hid hK
  have HA := hid hA
  obtain ⟨T, hT⟩ : ∃ T, T = PbM.fst key l 1 := ⟨_, rfl⟩
  obtain ⟨U, hU⟩ : ∃ U, U = HmM.tag key (HmM.dl T) := ⟨_, rfl⟩
  have k1 : PbM.key key l 1 32 = HmM.dl T := by rw [PbM.key_32, hT]; rfl
  have k2 : PbM.key key l 2 32 = HmM.dl fun k => T k ^^^ U k := by rw [PbM.key_32, hU, hT]; rfl
  have hT256 : ∀ k, T k < 256 := fun k => by rw [hT]; exact PbM.fst_256 _ _ _ k
  have hU256 : ∀ k, U k < 256 := fun k => by rw [hU]; exact HmM.tag_256 _ _ k
  have HT256 := hid hT256
  have HU256 := hid hU256
  have HT := hid hT
  have HU := hid hU
  have E1 := hid k1
  have E2 := hid k2
  have hkn : kn ≤ 2000 := by omega
  have hn : n ≤ 2000 := by omega
  have t1 : decide ((2000 : Int) < (kn : Int)) = false := decide_eq_false (by omega)
  have t2 : decide ((2000 : Int) < (n : Int)) = false := decide_eq_false (by omega)
  clear hS hK hA hT hU hT256 hU256 k1 k2 hlong
  go_enter Tryd.func8, Tryd.ntmps8
  go_wp2_with fail
  clear t1 t2
  generalize hw4 : World.alloc (World.alloc w _) _ = w4
  have k4 : Blk w4 (w.heap.size + 1) 22 #[.slice A n cap, .slice (some ⟨w.heap.size, 0, none⟩) 4 4] := by rw [← hw4]; exact Blk.top rfl (by simp)
  have b4 : Below w.heap.size w w4 := by rw [← hw4]; exact ((Below.refl _ _).alloc (Nat.le_refl _) _).alloc (by simp) _
  have x4 : Byt w4 w4.heap.size (some ⟨w.heap.size, 0, none⟩) [0, 0, 0, 1] := by
    have h : Blk w4 w.heap.size 5 #[.int .u8 0, .int .u8 0, .int .u8 0, .int .u8 1] := by rw [← hw4]; exact (Blk.top rfl rfl).alloc _
    exact byt_lit h h.lt (lit_ok (by rfl))
  have AL := HA.out.on b4
  have hp : Prts w4 w4.heap.size (some ⟨w.heap.size + 1, 0, none⟩) [l, [0, 0, 0, 1]] := by
    refine prts_lit k4 k4.lt fun j hj => ?_
    match j, hj with
    | 0, _ => exact ⟨A, cap, by rw [show [l, [0, 0, 0, 1]].getD 0 [] = l from rfl, AL.len]; rfl, by rw [show [l, [0, 0, 0, 1]].getD 0 [] = l from rfl, AL.len]; exact AL.cap, AL.max, AL.byt⟩
    | 1, _ => exact ⟨some ⟨w.heap.size, 0, none⟩, 4, rfl, Nat.le_refl _, by unfold maxLen; omega, x4⟩
  have hls : ∀ m ∈ [l, [0, 0, 0, 1]], B256 m := fun m hm => by
    simp only [List.mem_cons, List.not_mem_nil, or_false] at hm
    rcases hm with rfl | rfl
    · exact AL.b256
    · intro y hy
      simp only [List.mem_cons, List.not_mem_nil, or_false] at hy
      omega
  have hfl : flat [l, [0, 0, 0, 1]] = l ++ [0, 0, 0, 1] := by simp [flat]
  have hfz : 64 + (flat [l, [0, 0, 0, 1]]).length ≤ 1000000000000000 := by
    rw [hfl, List.length_append, AL.len]; simp; omega
  have HP := hid hp
  have HLS := hid hls
  have HFL := hid hfl
  have HFZ := hid hfz
  have B4 := hid b4
  clear hw4 k4 b4 x4 AL hp hls hfl hfz
  have kk := HK.out.on B4.out
  refine (parts_any K key kn kcap kk.len kk.cap kk.max (by omega) kk.b256 _ [l, [0, 0, 0, 1]] 2 2 rfl (by omega) HLS.out HFZ.out w4 kk.byt HP.out (SA.out.on B4.out)).mono ?_
  rintro e w5 ⟨rfl, h5⟩
  rw [HFL.out, show HmM.tag key (l ++ [0, 0, 0, 1]) = T from HT.out.symm]
  have B5 := hid (B4.out.trans (h5.mono B4.out.size))
  have hz5 := B5.out.size
  clear h5 kk HP HLS HFL HFZ B4
  go_upto_region 4 with ((with_reducible apply stt); rfl; rfl; exact Blk.top zlit_tag rfl)
  generalize hw6 : World.setRow _ _ _ = w6
  obtain ⟨g6, hg6⟩ : ∃ g, g = w5.heap.size := ⟨_, rfl⟩
  have d6 : Blk w6 g6 43 (tag T) := by rw [← hw6, hg6]; exact (Blk.top zlit_tag rfl).setRow_same _
  have b56 : Below w5.heap.size w5 w6 := by rw [← hw6]; exact below_setRow ((Below.refl _ _).alloc (Nat.le_refl _) _) (Nat.le_refl _) _
  rw [← hg6]
  have B6 := hid (B5.out.trans (b56.mono hz5))
  have D6 := hid d6
  have K6 := hid (HK.out.on B6.out)
  have T6 := hid (tag_byt d6 d6.lt)
  clear hw6 b56 hg6 B5 hz5 d6
  clear w5 w4
  go_wp2_with fail
  refine (hof_any K key kn kcap K6.out.len K6.out.cap K6.out.max (by omega) K6.out.b256 _ (HmM.dl T) 32 32 (HmM.dl_length _) (Nat.le_refl _) (by unfold maxLen; omega) (HmM.dl_256 HT256.out) (by omega) w6 K6.out.byt T6.out (SA.out.on B6.out)).mono ?_
  rintro e w7 ⟨rfl, h7⟩
  rw [← HU.out]
  have B7 := hid (B6.out.trans (h7.mono B6.out.size))
  have D7 := hid (D6.out.below h7 D6.out.lt)
  have hz7 := B7.out.size
  clear h7 K6 T6 D6 B6
  go_upto_region 5 with ((with_reducible apply stt); rfl; rfl; exact Blk.top zlit_tag rfl)
  generalize hw8 : World.setRow _ _ _ = w8
  obtain ⟨g8, hg8⟩ : ∃ g, g = w7.heap.size := ⟨_, rfl⟩
  have d8 : Blk w8 g8 43 (tag U) := by rw [← hw8, hg8]; exact (Blk.top zlit_tag rfl).setRow_same _
  have b78 : Below w7.heap.size w7 w8 := by rw [← hw8]; exact below_setRow ((Below.refl _ _).alloc (Nat.le_refl _) _) (Nat.le_refl _) _
  rw [← hg8]
  have B8 := hid (B7.out.trans (b78.mono hz7))
  have G6 := hid (D7.out.below b78 D7.out.lt)
  have G8 := hid d8
  have K8 := hid (HK.out.on B8.out)
  have A8 := hid (HA.out.on B8.out)
  clear hw8 b78 hg8 B7 hz7 d8 D7
  clear w7 w6
  go_wp2_with fail
  refine (pkey_any K key kn kcap A l n cap 1 32 (by omega) (by omega) (by omega) (by omega) (by omega) (by omega) w8 K8.out A8.out (SA.out.on B8.out)).mono ?_
  rintro e w9 ⟨v9, rfl, o9, h9⟩
  obtain ⟨A9, c9, e9, a9⟩ := o9.arg (PbM.key_256 _ _ _ _)
  rw [PbM.key_length (by omega)] at e9 a9
  rw [E1.out] at a9
  subst e9
  have A9' := hid a9
  have B9 := hid (B8.out.trans (h9.mono B8.out.size))
  have G69 := hid (G6.out.below h9 G6.out.lt)
  have G89 := hid (G8.out.below h9 G8.out.lt)
  have K9 := hid (HK.out.on B9.out)
  have L9 := hid (HA.out.on B9.out)
  clear o9 a9 h9 G6 G8 K8 A8 B8
  clear w8
  go_wp2_with fail
  refine (pkey_any K key kn kcap A l n cap 2 32 (by omega) (by omega) (by omega) (by omega) (by omega) (by omega) w9 K9.out L9.out (SA.out.on B9.out)).mono ?_
  rintro e w10 ⟨v10, rfl, o10, h10⟩
  obtain ⟨A10, c10, e10, a10⟩ := o10.arg (PbM.key_256 _ _ _ _)
  rw [PbM.key_length (by omega)] at e10 a10
  rw [E2.out] at a10
  subst e10
  have X1 := A9'.out.on h10
  have B10 := hid (B9.out.trans (h10.mono B9.out.size))
  have G6 := hid (G69.out.below h10 G69.out.lt)
  have G8 := hid (G89.out.below h10 G89.out.lt)
  obtain ⟨ga, oa, rfl, hga, ra⟩ := X1.byt (by rw [HmM.dl_length]; omega)
  obtain ⟨gb, ob, rfl, hgb, rb⟩ := a10.byt (by rw [HmM.dl_length]; omega)
  have RA := hid ra
  have RB := hid rb
  clear o10 a10 h10 G69 G89 K9 L9 B9 A9' X1 ra rb
  clear w9
  go_wp2_with fail
  go_loopw [11] (fun v wr => ∃ i : Nat, i ≤ 32 ∧ v = .int .i64 i ∧ Hid (Drew w10 wr ∨ wr = w10)) (fun v _ => 32 - (intOf v).toNat)
  case atStart => exact ⟨0, by omega, rfl, hid (.inr rfl)⟩
  case round =>
    obtain ⟨i, hi, rfl, hw⟩ := hrel
    have hb : Below w.heap.size w wr := by
      rcases hw.out with h | h
      · exact h.below B10.out
      · rw [h]; exact B10.out
    have HB := hid hb
    clear hb
    by_cases hlt : i < 32
    · have ti : (i : Int) < 32 := by omega
      have blk : Hid (∀ w', Drew wr w' → ∀ {p : Addr} {v : Value}, w10.cell? p = some v → w'.cell? p = some v) := hid fun w' h p v hc => by
        rcases hw.out with h2 | h2
        · exact h.cell (h2.cell hc)
        · rw [h2] at h; exact h.cell hc
      have QA := hid (RA.out i (by rw [HmM.dl_length]; exact hlt))
      have QB := hid (RB.out i (by rw [HmM.dl_length]; exact hlt))
      rw [HmM.dl_get _ hlt] at QA QB
      have Q6 := hid ((G6.out.cell i).trans (get_tag hlt))
      have Q8 := hid ((G8.out.cell i).trans (get_tag hlt))
      have EX := hid (u8_xor_nat (T i) (U i) (HT256.out i) (HU256.out i))
      go_wp2_with fail
      refine wp_region_tail (C := Drew wr) 22 (by kernel_rfl) (by kernel_rfl) (by kernel_rfl) (Drew.refl _) ?_
      simp only [List.take_succ_cons, List.take_zero, List.drop_succ_cons, List.drop_zero]
      apply wpK_val
      · rfl
      · intro w' hw'
        go_simp
        first | exact rfl | exact ⟨rfl, hw'⟩
      simp only [Act.put, List.setIfInBounds_toArray, List.set_cons_succ, List.set_cons_zero]
      apply wpK_val
      · rfl
      · intro w' hw'
        go_simp
        first | exact rfl | exact ⟨rfl, hw'⟩
      simp only [Act.put, List.setIfInBounds_toArray, List.set_cons_succ, List.set_cons_zero]
      apply wpK_val
      · rfl
      · intro w' hw'
        go_simp
        first | exact rfl | exact ⟨rfl, hw'⟩
      simp only [Act.put, List.setIfInBounds_toArray, List.set_cons_succ, List.set_cons_zero]
      apply wpK_val
      · rfl
      · intro w' hw'
        have hcell := blk.out _ hw' QA.out
        go_simp
        first | exact rfl | exact ⟨rfl, hw'⟩
      simp only [Act.put, List.setIfInBounds_toArray, List.set_cons_succ, List.set_cons_zero]
      apply wpK_val
      · rfl
      · intro w' hw'
        go_simp
        first | exact rfl | exact ⟨rfl, hw'⟩
      simp only [Act.put, List.setIfInBounds_toArray, List.set_cons_succ, List.set_cons_zero]
      apply wpK_val
      · rfl
      · intro w' hw'
        go_simp
        first | exact rfl | exact ⟨rfl, hw'⟩
      simp only [Act.put, List.setIfInBounds_toArray, List.set_cons_succ, List.set_cons_zero]
      apply wpK_val
      · rfl
      · intro w' hw'
        have hcell := blk.out _ hw' Q6.out
        go_simp
        first | exact rfl | exact ⟨rfl, hw'⟩
      simp only [Act.put, List.setIfInBounds_toArray, List.set_cons_succ, List.set_cons_zero]
      apply wpK_val
      · rfl
      · intro w' hw'
        go_simp
        first | exact rfl | exact ⟨rfl, hw'⟩
      simp only [Act.put, List.setIfInBounds_toArray, List.set_cons_succ, List.set_cons_zero]
      apply wpK_val
      · rfl
      · intro w' hw'
        go_simp
        first | exact rfl | exact ⟨rfl, hw'⟩
      simp only [Act.put, List.setIfInBounds_toArray, List.set_cons_succ, List.set_cons_zero]
      apply wpK_val
      · rfl
      · intro w' hw'
        go_simp
        first | exact rfl | exact ⟨rfl, hw'⟩
      simp only [Act.put, List.setIfInBounds_toArray, List.set_cons_succ, List.set_cons_zero]
      apply wpK_val
      · rfl
      · intro w' hw'
        go_simp
        first | exact rfl | exact ⟨rfl, hw'⟩
      simp only [Act.put, List.setIfInBounds_toArray, List.set_cons_succ, List.set_cons_zero]
      apply wpK_val
      · rfl
      · intro w' hw'
        go_simp
        first | exact rfl | exact ⟨rfl, hw'⟩
      simp only [Act.put, List.setIfInBounds_toArray, List.set_cons_succ, List.set_cons_zero]
      apply wpK_val
      · rfl
      · intro w' hw'
        have hcell := blk.out _ hw' QB.out
        go_simp
        first | exact rfl | exact ⟨rfl, hw'⟩
      simp only [Act.put, List.setIfInBounds_toArray, List.set_cons_succ, List.set_cons_zero]
      apply wpK_val
      · rfl
      · intro w' hw'
        go_simp
        first | exact rfl | exact ⟨rfl, hw'⟩
      simp only [Act.put, List.setIfInBounds_toArray, List.set_cons_succ, List.set_cons_zero]
      apply wpK_val
      · rfl
      · intro w' hw'
        go_simp
        first | exact rfl | exact ⟨rfl, hw'⟩
      simp only [Act.put, List.setIfInBounds_toArray, List.set_cons_succ, List.set_cons_zero]
      apply wpK_val
      · rfl
      · intro w' hw'
        have hcell := blk.out _ hw' Q6.out
        go_simp
        first | exact rfl | exact ⟨rfl, hw'⟩
      simp only [Act.put, List.setIfInBounds_toArray, List.set_cons_succ, List.set_cons_zero]
      apply wpK_val
      · rfl
      · intro w' hw'
        go_simp
        first | exact rfl | exact ⟨rfl, hw'⟩
      simp only [Act.put, List.setIfInBounds_toArray, List.set_cons_succ, List.set_cons_zero]
      apply wpK_val
      · rfl
      · intro w' hw'
        go_simp
        first | exact rfl | exact ⟨rfl, hw'⟩
      simp only [Act.put, List.setIfInBounds_toArray, List.set_cons_succ, List.set_cons_zero]
      apply wpK_val
      · rfl
      · intro w' hw'
        have hcell := blk.out _ hw' Q8.out
        go_simp
        first | exact rfl | exact ⟨rfl, hw'⟩
      simp only [Act.put, List.setIfInBounds_toArray, List.set_cons_succ, List.set_cons_zero]
      apply wpK_val
      · rfl
      · intro w' hw'
        have h1 : _ := EX.out
        go_simp
        first | exact rfl | exact ⟨rfl, hw'⟩
      simp only [Act.put, List.setIfInBounds_toArray, List.set_cons_succ, List.set_cons_zero]
      apply wpK_val
      · rfl
      · intro w' hw'
        go_simp
        first | exact rfl | exact ⟨rfl, hw'⟩
      simp only [Act.put, List.setIfInBounds_toArray, List.set_cons_succ, List.set_cons_zero]
      apply wpK_val
      · rfl
      · intro w' hw'
        go_simp
        first | exact rfl | exact ⟨rfl, hw'⟩
      simp only [Act.put, List.setIfInBounds_toArray, List.set_cons_succ, List.set_cons_zero]
      refine wpK_nil fun w5 hw5 => ?_
      go_wp2_with fail
      go_roundw
      case rel =>
        refine ⟨i + 1, by omega, by go_num, hid (.inl ?_)⟩
        rcases hw.out with h | h
        · obtain ⟨a, ha⟩ := h
          obtain ⟨b, hb⟩ := hw5
          exact ⟨a + b, by rw [hb, ha]; simp⟩
        · rw [← h]; exact hw5
      case measure => simp [intOf]; omega
    · have ti : decide ((i : Int) < 32) = false := by simp; omega
      go_wp2_with fail
      refine (awake_any wr (SA.out.on HB.out)).mono ?_
      rintro e w11 ⟨rfl, h11⟩
      have b11 := HB.out.trans (h11.mono HB.out.size)
      clear h11
      go_wp2_with fail
      go_ret
      exact ⟨rfl, b11⟩
end Go.Proofs.YtnnhnlabkbjacaaDoor
