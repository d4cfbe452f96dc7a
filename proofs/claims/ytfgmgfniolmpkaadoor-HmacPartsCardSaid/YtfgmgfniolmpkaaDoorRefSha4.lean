/-
  Contracts of the document's tail and message's numbers (casemateref03.Tail, Message) over this translation.
-/
import Derived.Test.YtfgmgfniolmpkaaDoorRefSha3
import Derived.Test.YtfgmgfniolmpkaaDoorAppZ
namespace Go.Proofs.YtfgmgfniolmpkaaDoor
open Go.ChangeShapes Go.WideShapes Go.ChangeAt Go.RowKit
attribute [local go_sem] Gives
theorem under_int : Tryd.prog.underlying 3 = some (.int .i64) := Tryd.underlying3
theorem count8_all (x : Nat) : (ShaM.count8 x).drop (8 - 8) = ShaM.count8 x := rfl
set_option maxHeartbeats 400000 in
set_option maxRecDepth 100000 in
theorem tail_any (n : Nat) (hn : n ≤ 1000000) (w : World) :
    Calls Tryd.prog 28 #[.int .i64 n] w fun e w' => Fresh .u8 w w' e (ShaM.tail n) := by
  obtain ⟨z, hz⟩ : ∃ z, z = ShaM.zeros n := ⟨_, rfl⟩
  have hz64 : z < 64 := by rw [hz]; unfold ShaM.zeros; omega
  have hz2 : z = (64 - (n + 9) % 64) % 64 := hz
  have htl : ShaM.tail n = (128 :: List.replicate z 0) ++ ShaM.count8 (8 * n) := by rw [hz]; rfl
  rw [htl]
  have HZ := hid hz2
  clear hz htl hz2
  go_enter Tryd.func28, Tryd.ntmps28
  by_cases h0 : (n + 9) % 64 = 0
  · have hz0 : z = 0 := by have := HZ.out; omega
    have t0 : ((n : Int) + 9) % 64 = 0 := by omega
    clear HZ h0
    subst hz0
    go_upto_region 5 with (at_builtin; (with_reducible apply wappZ elt8 under_int (l := [128]) (n := 0) (g := w.heap.size)); rfl; rfl; exact Own.lit w rfl (Nat.le_refl _); omega; decide; decide; (simp); intro v1 w1 o1 g1)
    have b1 := below_none ((Below.refl w.heap.size w).alloc (Nat.le_refl _) (.cells #[.int .u8 128] 5)) g1 (Nat.le_refl _)
    clear g1
    obtain ⟨A1, c1, e1, _, _, _⟩ := o1.any
    generalize hN1 : ([128] ++ List.replicate 0 0).length = N1 at e1
    subst e1
    have HN1 := hid hN1
    clear hN1
    have O1 := hid o1
    have B1 := hid b1
    clear o1 b1
    go_wp2_with fail
    go_loopw [5, 6, 7] (fun x u v wr => ∃ (i X : Nat) (vs : Value), i ≤ 8 ∧ v = .int .i64 i ∧ x = .int .u64 X ∧ X ≤ 8000000 ∧ Hid (X = 8 * n / 256 ^ i) ∧ u = vs ∧ Hid (Own 5 .u8 wr w1.heap.size vs ((ShaM.count8 (8 * n)).drop (8 - i))) ∧ Hid (Below w1.heap.size w1 wr)) (fun _ _ v _ => 8 - (intOf v).toNat)
    case atStart => exact ⟨0, 8 * n, _, by omega, rfl, by go_num, by omega, hid (by simp), rfl, hid (by rw [List.drop_of_length_le (by rw [ShaM.count8_length]; omega)]; exact Own.nil), hid (Below.refl _ _)⟩
    case round =>
      obtain ⟨i, X, vs, hi, rfl, rfl, hX, hXe, rfl, ho, hb⟩ := hrel
      have hsz := hb.out.size
      by_cases hlt : i < 8
      · have ti : (i : Int) < 8 := by omega
        have hdr := ShaM.count8_drop (8 * n) hlt
        rw [← hXe.out] at hdr
        have hX2 : X / 256 = 8 * n / 256 ^ (i + 1) := by rw [hXe.out, Nat.div_div_eq_div_mul, Nat.pow_succ]
        have HX2 := hid hX2
        have HDR := hid hdr
        have hl8 : ((ShaM.count8 (8 * n)).drop (8 - i)).length = i := by rw [List.length_drop, ShaM.count8_length]; omega
        have HL8 := hid hl8
        clear hX2 hdr hl8
        generalize hD : (ShaM.count8 (8 * n)).drop (8 - i) = D at *
        have HD := hid hD
        clear hD
        rcases ho.out.form with ⟨e2, e3⟩ | ⟨g2, c2, e2, _, _, _, _, hN⟩
        · subst e2
          have E3 := hid e3
          clear e3
          go_wp2_with (at_builtin; (with_reducible apply wappN_none elt8); rfl; rfl; exact Own.lit wr (x := X % 256) (by simp) (B := w1.heap.size) hsz)
          go_roundw
          case rel => exact ⟨i + 1, X / 256, _, by omega, by go_num, by go_num, by omega, HX2, rfl, hid (by rw [HDR.out, E3.out]; exact Own.lit wr (by simp) hsz), hid (hb.out.alloc hsz _)⟩
          case measure => simp [intOf] <;> omega
        · subst e2
          have HN := hid hN
          clear hN
          go_wp2_with (at_builtin; (with_reducible apply wappN elt8); rfl; rfl; exact Own.lit wr (x := X % 256) (by simp) (B := w1.heap.size) hsz; exact (HN.out.below ((Below.refl wr.heap.size wr).alloc (Nat.le_refl _) _) (Nat.le_refl _)); rfl; (rw [HL8.out]; simp; omega); (simp; omega); intro v' w4 o4 g4)
          have b4 := below_grown (hb.out.alloc hsz (.cells #[.int .u8 (X % 256 : Nat)] 5)) g4 (Own.lit (e := 5) (k := .u8) wr (x := X % 256) rfl hsz) (Nat.le_refl _) (Nat.le_refl _)
          go_roundw
          case rel => exact ⟨i + 1, X / 256, v', by omega, by go_num, by go_num, by omega, HX2, rfl, hid (by rw [HDR.out]; exact o4), hid b4⟩
          case measure => simp [intOf] <;> omega
      · obtain rfl : i = 8 := by omega
        have O1' := hid (O1.out.below hb.out)
        have ho8 := ho.out
        rw [show (ShaM.count8 (8 * n)).drop (8 - 8) = ShaM.count8 (8 * n) from rfl] at ho8
        have B8 := B1.out.trans (hb.out.mono B1.out.size)
        have HB8 := hid B8
        rcases ho8.form with ⟨e2, e3⟩ | ⟨g2, c2, e2, _, _, _, _, hN⟩
        · exact absurd e3 (by rw [← List.length_eq_zero_iff, ShaM.count8_length]; omega)
        · subst e2
          have HN := hid hN
          have hbw := B8.size
          clear hN ho8 B8
          go_wp2_with (at_builtin; (with_reducible apply wappN elt8); rfl; rfl; exact O1'.out; exact HN.out; (first | rfl | exact ShaM.count8_length _); (simp [ShaM.count8_length] <;> omega); exact hbw; intro v' w4 o4 g4)
          have b4 := below_grown HB8.out g4 O1'.out (Nat.le_refl _) (Nat.le_refl _)
          go_ret
          exact o4.fresh b4
  · have t0 : 64 - ((n : Int) + 9) % 64 = (z : Int) := by have := HZ.out; omega
    have t1 : ((z : Int) == 64) = false := by rw [beq_eq_false_iff_ne]; omega
    clear HZ h0
    go_upto_region 5 with (at_builtin; (with_reducible apply wappZ elt8 under_int (l := [128]) (n := z) (g := w.heap.size)); rfl; rfl; exact Own.lit w rfl (Nat.le_refl _); omega; decide; decide; (simp); intro v1 w1 o1 g1)
    have b1 := below_none ((Below.refl w.heap.size w).alloc (Nat.le_refl _) (.cells #[.int .u8 128] 5)) g1 (Nat.le_refl _)
    clear g1
    obtain ⟨A1, c1, e1, _, _, _⟩ := o1.any
    generalize hN1 : ([128] ++ List.replicate z 0).length = N1 at e1
    subst e1
    have HN1 := hid hN1
    clear hN1
    have O1 := hid o1
    have B1 := hid b1
    clear o1 b1
    go_wp2_with fail
    go_loopw [5, 6, 7] (fun x u v wr => ∃ (i X : Nat) (vs : Value), i ≤ 8 ∧ v = .int .i64 i ∧ x = .int .u64 X ∧ X ≤ 8000000 ∧ Hid (X = 8 * n / 256 ^ i) ∧ u = vs ∧ Hid (Own 5 .u8 wr w1.heap.size vs ((ShaM.count8 (8 * n)).drop (8 - i))) ∧ Hid (Below w1.heap.size w1 wr)) (fun _ _ v _ => 8 - (intOf v).toNat)
    case atStart => exact ⟨0, 8 * n, _, by omega, rfl, by go_num, by omega, hid (by simp), rfl, hid (by rw [List.drop_of_length_le (by rw [ShaM.count8_length]; omega)]; exact Own.nil), hid (Below.refl _ _)⟩
    case round =>
      obtain ⟨i, X, vs, hi, rfl, rfl, hX, hXe, rfl, ho, hb⟩ := hrel
      have hsz := hb.out.size
      by_cases hlt : i < 8
      · have ti : (i : Int) < 8 := by omega
        have hdr := ShaM.count8_drop (8 * n) hlt
        rw [← hXe.out] at hdr
        have hX2 : X / 256 = 8 * n / 256 ^ (i + 1) := by rw [hXe.out, Nat.div_div_eq_div_mul, Nat.pow_succ]
        have HX2 := hid hX2
        have HDR := hid hdr
        have hl8 : ((ShaM.count8 (8 * n)).drop (8 - i)).length = i := by rw [List.length_drop, ShaM.count8_length]; omega
        have HL8 := hid hl8
        clear hX2 hdr hl8
        generalize hD : (ShaM.count8 (8 * n)).drop (8 - i) = D at *
        have HD := hid hD
        clear hD
        rcases ho.out.form with ⟨e2, e3⟩ | ⟨g2, c2, e2, _, _, _, _, hN⟩
        · subst e2
          have E3 := hid e3
          clear e3
          go_wp2_with (at_builtin; (with_reducible apply wappN_none elt8); rfl; rfl; exact Own.lit wr (x := X % 256) (by simp) (B := w1.heap.size) hsz)
          go_roundw
          case rel => exact ⟨i + 1, X / 256, _, by omega, by go_num, by go_num, by omega, HX2, rfl, hid (by rw [HDR.out, E3.out]; exact Own.lit wr (by simp) hsz), hid (hb.out.alloc hsz _)⟩
          case measure => simp [intOf] <;> omega
        · subst e2
          have HN := hid hN
          clear hN
          go_wp2_with (at_builtin; (with_reducible apply wappN elt8); rfl; rfl; exact Own.lit wr (x := X % 256) (by simp) (B := w1.heap.size) hsz; exact (HN.out.below ((Below.refl wr.heap.size wr).alloc (Nat.le_refl _) _) (Nat.le_refl _)); rfl; (rw [HL8.out]; simp; omega); (simp; omega); intro v' w4 o4 g4)
          have b4 := below_grown (hb.out.alloc hsz (.cells #[.int .u8 (X % 256 : Nat)] 5)) g4 (Own.lit (e := 5) (k := .u8) wr (x := X % 256) rfl hsz) (Nat.le_refl _) (Nat.le_refl _)
          go_roundw
          case rel => exact ⟨i + 1, X / 256, v', by omega, by go_num, by go_num, by omega, HX2, rfl, hid (by rw [HDR.out]; exact o4), hid b4⟩
          case measure => simp [intOf] <;> omega
      · obtain rfl : i = 8 := by omega
        have O1' := hid (O1.out.below hb.out)
        have ho8 := ho.out
        rw [show (ShaM.count8 (8 * n)).drop (8 - 8) = ShaM.count8 (8 * n) from rfl] at ho8
        have B8 := B1.out.trans (hb.out.mono B1.out.size)
        have HB8 := hid B8
        rcases ho8.form with ⟨e2, e3⟩ | ⟨g2, c2, e2, _, _, _, _, hN⟩
        · exact absurd e3 (by rw [← List.length_eq_zero_iff, ShaM.count8_length]; omega)
        · subst e2
          have HN := hid hN
          have hbw := B8.size
          clear hN ho8 B8
          go_wp2_with (at_builtin; (with_reducible apply wappN elt8); rfl; rfl; exact O1'.out; exact HN.out; (first | rfl | exact ShaM.count8_length _); (simp [ShaM.count8_length] <;> omega); exact hbw; intro v' w4 o4 g4)
          have b4 := below_grown HB8.out g4 O1'.out (Nat.le_refl _) (Nat.le_refl _)
          go_ret
          exact o4.fresh b4
end Go.Proofs.YtfgmgfniolmpkaaDoor
