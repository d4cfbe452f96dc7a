/-
  Contract of pbkdf.blockOf over this translation.
-/
import Derived.Test.YtnnhnlabkbjacaaDoorPbM
import Derived.Test.YtnnhnlabkbjacaaDoorPrtsL
import Derived.Test.YtnnhnlabkbjacaaDoorEqT
import Derived.Test.YtnnhnlabkbjacaaDoorStr
namespace Go.Proofs.YtnnhnlabkbjacaaDoor
open Go.ChangeShapes Go.WideShapes Go.ChangeAt Go.RowKit
attribute [local go_sem] Gives
/-- The tag of a closed row of 32 cells as an argument. -/
theorem tag_byt {w : World} {g : Nat} {T : Nat → Nat} (h : Blk w g 43 (tag T)) {B : Nat} (hg : g < B) : Byt w B (some ⟨g, 0, none⟩) (HmM.dl T) :=
  Blk.byt h hg (by rw [HmM.dl_length]; omega) (fun j hj => HmM.dl_get T (by rw [HmM.dl_length] at hj; exact hj))
/-- Behind k bytes of the sum. -/
def mixT (k : Nat) (F G : Nat → Nat) (j : Nat) : Nat := if j < k then F j ^^^ G j else F j
theorem mixT_zero (F G : Nat → Nat) : mixT 0 F G = F := funext fun j => by unfold mixT; rw [if_neg (by omega)]
theorem mixT_at (F G : Nat → Nat) (k : Nat) : mixT k F G k = F k := by unfold mixT; rw [if_neg (by omega)]
theorem mixT_full (F G : Nat → Nat) : tag (mixT 32 F G) = tag fun k => F k ^^^ G k := tag_ext fun k hk => by unfold mixT; rw [if_pos hk]
theorem mixT_set (F G : Nat → Nat) {k : Nat} : (tag (mixT k F G)).setIfInBounds k (.int .u8 ((F k ^^^ G k : Nat) : Int)) = tag (mixT (k + 1) F G) := by
  rw [tag_set]
  refine tag_ext fun j _ => ?_
  unfold mixT
  by_cases e : j = k
  · subst e; rw [if_pos rfl, if_pos (by omega)]
  · rw [if_neg e]
    by_cases h : j < k
    · rw [if_pos h, if_pos (by omega)]
    · rw [if_neg h, if_neg (by omega)]
set_option maxHeartbeats 1000000 in
set_option maxRecDepth 100000 in
theorem blockof_any (K : Option Addr) (key : List Nat) (kn kcap : Nat) (A : Option Addr) (l : List Nat) (n cap rounds x : Nat) (hkn : kn ≤ 100000) (hn : n ≤ 100000) (hr : 1 ≤ rounds) (hr2 : rounds ≤ 100000) (hx : x < 256) (w : World) (hK : Arg w K key kn kcap) (hA : Arg w A l n cap) (hS : Salts w) :
    Calls Tryd.prog 22 #[.slice K kn kcap, .slice A n cap, .int .i64 rounds, .int .u8 x] w fun e w' => e = .returned (.agg (tag (PbM.bl key l rounds x))) ∧ Below w.heap.size w w' := by
  have SA := hid hS
  have HK := hid hK
  have HA := hid hA
  obtain ⟨T, hT⟩ : ∃ T, T = PbM.fst key l x := ⟨_, rfl⟩
  obtain ⟨R, hR⟩ : ∃ R, R = rounds - 1 := ⟨_, rfl⟩
  have hbl : PbM.bl key l rounds x = PbM.acc key T R := by rw [hT, hR]; rfl
  rw [hbl]
  have hT256 : ∀ k, T k < 256 := fun k => by rw [hT]; exact PbM.fst_256 _ _ _ k
  have HT256 := hid hT256
  have HT := hid hT
  have e1 : IntKind.i64.wrap ((rounds : Int) - 1) = (R : Int) := wr_nat (by omega) (by omega)
  have hRb : R ≤ 100000 := by omega
  clear hS hK hA hT hbl hT256 hR
  go_enter Tryd.func22, Tryd.ntmps22
  go_upto_region 1 with fail
  generalize hw1 : World.alloc w _ = w1
  have b1 : Blk w1 w.heap.size 43 (tag fun _ => 0) := by rw [← hw1]; exact Blk.top zlit_tag rfl
  have hb1 : Below w.heap.size w w1 := by rw [← hw1]; exact (Below.refl _ _).alloc (Nat.le_refl _) _
  clear hw1
  have C0 := hid b1
  have B1 := hid hb1
  clear b1 hb1
  go_wp2_with fail
  generalize hw4 : World.alloc (World.alloc w1 _) _ = w4
  have k4 : Blk w4 (w1.heap.size + 1) 22 #[.slice A n cap, .slice (some ⟨w1.heap.size, 0, none⟩) 4 4] := by rw [← hw4]; exact Blk.top rfl (by simp)
  have b4 : Below w1.heap.size w1 w4 := by rw [← hw4]; exact ((Below.refl _ _).alloc (Nat.le_refl _) _).alloc (by simp) _
  have x4 : Byt w4 w4.heap.size (some ⟨w1.heap.size, 0, none⟩) [0, 0, 0, x] := by
    have h : Blk w4 w1.heap.size 5 #[.int .u8 0, .int .u8 0, .int .u8 0, .int .u8 (x : Nat)] := by rw [← hw4]; exact (Blk.top rfl rfl).alloc _
    exact byt_lit h h.lt (lit_ok (by rfl))
  have AL := HA.out.on (B1.out.trans (b4.mono B1.out.size))
  have hp : Prts w4 w4.heap.size (some ⟨w1.heap.size + 1, 0, none⟩) [l, [0, 0, 0, x]] := by
    refine prts_lit k4 k4.lt fun j hj => ?_
    match j, hj with
    | 0, _ => exact ⟨A, cap, by rw [show [l, [0, 0, 0, x]].getD 0 [] = l from rfl, AL.len]; rfl, by rw [show [l, [0, 0, 0, x]].getD 0 [] = l from rfl, AL.len]; exact AL.cap, AL.max, AL.byt⟩
    | 1, _ => exact ⟨some ⟨w1.heap.size, 0, none⟩, 4, rfl, Nat.le_refl _, by unfold maxLen; omega, x4⟩
  have hls : ∀ m ∈ [l, [0, 0, 0, x]], B256 m := fun m hm => by
    simp only [List.mem_cons, List.not_mem_nil, or_false] at hm
    rcases hm with rfl | rfl
    · exact AL.b256
    · intro y hy
      simp only [List.mem_cons, List.not_mem_nil, or_false] at hy
      omega
  have hfl : flat [l, [0, 0, 0, x]] = l ++ [0, 0, 0, x] := by simp [flat]
  have hfz : 64 + (flat [l, [0, 0, 0, x]]).length ≤ 1000000000000000 := by
    rw [hfl, List.length_append, AL.len]; simp; omega
  have HP := hid hp
  have HLS := hid hls
  have HFL := hid hfl
  have HFZ := hid hfz
  have B4 := hid (B1.out.trans (b4.mono B1.out.size))
  have C04 := hid (C0.out.below b4 C0.out.lt)
  clear hw4 k4 b4 x4 AL hp hls hfl hfz B1 C0 hx
  have kk := HK.out.on B4.out
  refine (parts_any K key kn kcap kk.len kk.cap kk.max (by omega) kk.b256 _ [l, [0, 0, 0, x]] 2 2 rfl (by omega) HLS.out HFZ.out w4 kk.byt HP.out (SA.out.on B4.out)).mono ?_
  rintro e w5 ⟨rfl, h5⟩
  rw [HFL.out, show HmM.tag key (l ++ [0, 0, 0, x]) = T from HT.out.symm]
  have B5 := hid (B4.out.trans (h5.mono B4.out.size))
  have C05 := hid (C04.out.below h5 C04.out.lt)
  have hz5 := B5.out.size
  clear h5 kk HT HP HLS HFL HFZ B4 C04
  go_upto_region 2 with ((with_reducible apply stt); rfl; rfl; exact Blk.top zlit_tag rfl)
  generalize hw6 : World.setRow _ _ _ = w6
  obtain ⟨g6, hg6⟩ : ∃ g, g = w5.heap.size := ⟨_, rfl⟩
  have d6 : Blk w6 g6 43 (tag T) := by rw [← hw6, hg6]; exact (Blk.top zlit_tag rfl).setRow_same _
  have b56 : Below w5.heap.size w5 w6 := by rw [← hw6]; exact below_setRow ((Below.refl _ _).alloc (Nat.le_refl _) _) (Nat.le_refl _) _
  have c06 := C05.out.below b56 C05.out.lt
  have hg06 : w.heap.size < g6 := by rw [hg6]; exact C05.out.lt
  rw [← hg6]
  have B6 := hid (B5.out.trans (b56.mono hz5))
  have D6 := hid d6
  have C06 := hid c06
  have hz6 := B6.out.size
  have hg6l := d6.lt
  clear hw6 b56 hg6 B5 C05 hz5 c06
  go_upto_region 3 with (first | ((with_reducible apply ldt); rfl; exact d6) | ((with_reducible apply stt); rfl; rfl; exact Blk.top zlit_tag rfl))
  clear d6
  generalize hw7 : World.setRow _ _ _ = w7
  obtain ⟨g7, hg7⟩ : ∃ g, g = w6.heap.size := ⟨_, rfl⟩
  have d7 : Blk w7 g7 43 (tag T) := by rw [← hw7, hg7]; exact (Blk.top zlit_tag rfl).setRow_same _
  have b67 : Below w6.heap.size w6 w7 := by rw [← hw7]; exact below_setRow ((Below.refl _ _).alloc (Nat.le_refl _) _) (Nat.le_refl _) _
  have hg67 : g6 < g7 := by rw [hg7]; exact hg6l
  rw [← hg7]
  have E6 := hid (D6.out.below b67 hg6l)
  have E7 := hid d7
  have E0 := hid (C06.out.below b67 C06.out.lt)
  have B7 := hid (B6.out.trans (b67.mono hz6))
  have K7 := hid (HK.out.on B7.out)
  clear hw7 d7 b67 hg7 hg6l hz6 B6 D6 C06 HA
  go_wp2_with fail
  go_loopw [21] (fun v wr => ∃ j : Nat, j ≤ R ∧ v = .int .i64 j ∧ Hid (Blk wr g6 43 (tag (PbM.un key T j))) ∧ Hid (Blk wr g7 43 (tag (PbM.acc key T j))) ∧ Hid (Blk wr w.heap.size 43 (tag fun _ => 0)) ∧ Hid (Below w.heap.size w wr)) (fun v _ => R - (intOf v).toNat)
  case atStart => exact ⟨0, by omega, rfl, E6, E7, E0, B7⟩
  case round =>
    clear E6 E7 E0 B7 K7 e1
    obtain ⟨j, hj, rfl, q6, q7, q0, hb⟩ := hrel
    by_cases hlt : j < R
    · have tj : (j : Int) < (R : Int) := by omega
      have kk := HK.out.on hb.out
      have hun : PbM.un key T (j + 1) = HmM.tag key (HmM.dl (PbM.un key T j)) := rfl
      have hacc : PbM.acc key T (j + 1) = fun k => PbM.acc key T j k ^^^ PbM.un key T (j + 1) k := rfl
      have hF := PbM.acc_256 (key := key) HT256.out j
      have hG := PbM.un_256 (key := key) HT256.out (j + 1)
      have hU := PbM.un_256 (key := key) HT256.out j
      obtain ⟨U, hU0⟩ : ∃ U, U = PbM.un key T j := ⟨_, rfl⟩
      obtain ⟨F, hF0⟩ : ∃ F, F = PbM.acc key T j := ⟨_, rfl⟩
      obtain ⟨G, hG0⟩ : ∃ G, G = PbM.un key T (j + 1) := ⟨_, rfl⟩
      rw [← hU0] at q6 hun hU
      rw [← hF0] at q7 hacc hF
      rw [← hG0] at hun hacc hG
      have HUN := hid hun
      have HACC := hid hacc
      have HF := hid hF
      have HG := hid hG
      have HU := hid hU
      have HG0 := hid hG0
      have UB := hid (tag_byt q6.out q6.out.lt)
      clear hun hacc hF hG hU hU0 hF0 hG0
      go_wp2_with fail
      refine (hof_any K key kn kcap kk.len kk.cap kk.max (by omega) kk.b256 _ (HmM.dl U) 32 32 (HmM.dl_length _) (Nat.le_refl _) (by unfold maxLen; omega) (HmM.dl_256 HU.out) (by omega) wr kk.byt UB.out (SA.out.on hb.out)).mono ?_
      rintro e w8 ⟨rfl, h8⟩
      rw [← HUN.out]
      have B8 := hid (hb.out.trans (h8.mono hb.out.size))
      have q68 := q6.out.below h8 q6.out.lt
      have Q7 := hid (q7.out.below h8 q7.out.lt)
      have Q0 := hid (q0.out.below h8 q0.out.lt)
      clear h8 q6 q7 q0 hb UB kk HUN
      go_upto_region 6 with ((with_reducible apply stt); rfl; rfl; exact q68)
      generalize hw9 : World.setRow _ _ _ = w9
      have d6 : Blk w9 g6 43 (tag G) := by rw [← hw9]; exact q68.setRow_same _
      have d7 : Blk w9 g7 43 (tag (mixT 0 F G)) := by rw [← hw9, mixT_zero]; exact Q7.out.setRow_other (by omega) _
      have d0 : Blk w9 w.heap.size 43 (tag fun _ => 0) := by rw [← hw9]; exact Q0.out.setRow_other (by omega) _
      have b9 : Below w.heap.size w w9 := by rw [← hw9]; exact below_setRow B8.out (by omega) _
      have D6 := hid d6
      have D7 := hid d7
      have D0 := hid d0
      have B9 := hid b9
      clear hw9 d6 d7 d0 b9 q68 Q7 Q0 B8
      go_wp2_with fail
      go_loopw [26] (fun v wk => ∃ k : Nat, k ≤ 32 ∧ v = .int .i64 k ∧ Hid (Blk wk g6 43 (tag G)) ∧ Hid (Blk wk g7 43 (tag (mixT k F G))) ∧ Hid (Blk wk w.heap.size 43 (tag fun _ => 0)) ∧ Hid (Below w.heap.size w wk)) (fun v _ => 32 - (intOf v).toNat)
      case atStart => exact ⟨0, by omega, rfl, D6, D7, D0, B9⟩
      case round =>
        clear D6 D7 D0 B9
        obtain ⟨k, hk, rfl, q6, q7, q0, hb⟩ := hrel
        by_cases hk2 : k < 32
        · have tk : (k : Int) < 32 := by omega
          have Q6 := hid ((q6.out.cell k).trans (get_tag hk2))
          have q7c := (q7.out.cell k).trans (get_tag hk2)
          rw [mixT_at] at q7c
          have Q7 := hid q7c
          have q7f := q7.out.frozen k
          have hFk := HF.out k
          have hGk := HG.out k
          have EX := hid (u8_xor_nat (F k) (G k) hFk hGk)
          clear q7c
          go_wp2_with fail
          refine wp_region_tail (C := Drew wr) 8 (by kernel_rfl) (by kernel_rfl) (by kernel_rfl) (Drew.refl _) ?_
          simp only [List.take_succ_cons, List.take_zero, List.drop_succ_cons, List.drop_zero]
          apply wpK_val
          · rfl
          · intro w' hw'
            go_simp
            first | exact rfl | exact ⟨rfl, hw'⟩
          simp only [Act.put, List.setIfInBounds_toArray, List.set_cons_succ, List.set_cons_zero]
          apply wpK_val
          · rfl
          · intro w' hw'
            go_simp
            first | exact rfl | exact ⟨rfl, hw'⟩
          simp only [Act.put, List.setIfInBounds_toArray, List.set_cons_succ, List.set_cons_zero]
          apply wpK_val
          · rfl
          · intro w' hw'
            have hcell := hw'.cell Q7.out
            go_simp
            first | exact rfl | exact ⟨rfl, hw'⟩
          simp only [Act.put, List.setIfInBounds_toArray, List.set_cons_succ, List.set_cons_zero]
          apply wpK_val
          · rfl
          · intro w' hw'
            go_simp
            first | exact rfl | exact ⟨rfl, hw'⟩
          simp only [Act.put, List.setIfInBounds_toArray, List.set_cons_succ, List.set_cons_zero]
          apply wpK_val
          · rfl
          · intro w' hw'
            go_simp
            first | exact rfl | exact ⟨rfl, hw'⟩
          simp only [Act.put, List.setIfInBounds_toArray, List.set_cons_succ, List.set_cons_zero]
          apply wpK_val
          · rfl
          · intro w' hw'
            have hcell := hw'.cell Q6.out
            go_simp
            first | exact rfl | exact ⟨rfl, hw'⟩
          simp only [Act.put, List.setIfInBounds_toArray, List.set_cons_succ, List.set_cons_zero]
          apply wpK_val
          · rfl
          · intro w' hw'
            have h1 : _ := EX.out
            go_simp
            first | exact rfl | exact ⟨rfl, hw'⟩
          simp only [Act.put, List.setIfInBounds_toArray, List.set_cons_succ, List.set_cons_zero]
          apply wpK_val
          · rfl
          · intro w' hw'
            go_simp
            first | exact rfl | exact ⟨rfl, hw'⟩
          simp only [Act.put, List.setIfInBounds_toArray, List.set_cons_succ, List.set_cons_zero]
          refine wpK_nil fun w5 hw5 => ?_
          have r6 := hid (hw5.blk q6.out)
          have r7 := hid (hw5.blk q7.out)
          have r0 := hid (hw5.blk q0.out)
          have rb := hid (hw5.below hb.out)
          have f7 := r7.out.frozen k
          have c7 := (r7.out.cell k).trans (get_tag hk2)
          clear q6 q7 q0 hb q7f Q6 Q7 EX hFk hGk hw5
          go_wp2_with fail
          go_roundw
          case rel => exact ⟨k + 1, by omega, by go_num, hid (r6.out.setCell_other (by show g7 ≠ g6; omega) _), hid (by rw [← mixT_set]; exact r7.out.setCell_same _ _), hid (r0.out.setCell_other (by show g7 ≠ w.heap.size; omega) _), hid (rb.out.setCell (p := ⟨g7, k, none⟩) (by show w.heap.size ≤ g7; omega) _)⟩
          case measure => simp [intOf]; omega
        · have tk : decide ((k : Int) < 32) = false := by simp; omega
          obtain rfl : k = 32 := by omega
          have r7 := q7.out
          rw [mixT_full, ← HACC.out] at r7
          have R7 := hid r7
          have R6 := q6.out
          rw [HG0.out] at R6
          have R6' := hid R6
          clear r7 q7 R6 q6
          go_wp2_with fail
          go_roundw
          case rel => exact ⟨j + 1, by omega, by go_num, R6', R7, q0, hb⟩
          case measure => simp [intOf]; omega
    · have tj : decide ((j : Int) < (R : Int)) = false := by simp; omega
      obtain rfl : j = R := by omega
      have q77 := q7.out
      have q00 := q0.out
      have HB := hid hb.out
      clear q7 q0 hb q6
      go_wp2_with (first | ((with_reducible apply ldt); rfl; exact q77) | ((with_reducible apply stt); rfl; rfl; exact q00))
      apply ret_row Tryd.results22
      · exact q00.setRow_same _
      · exact Tryd.underlying43
      · rfl
      · exact (info_tag.trans (by rw [size_tag]))
      · rfl
      · rfl
      exact ⟨rfl, below_setRow HB.out (Nat.le_refl _) _⟩
end Go.Proofs.YtnnhnlabkbjacaaDoor
