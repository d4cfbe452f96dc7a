/-
  Contract of pbkdf.Key over this translation.
-/
import Derived.Test.YtnnhnlabkbjacaaDoorPbBlk
import Derived.Test.YtnnhnlabkbjacaaDoorMk0
namespace Go.Proofs.YtnnhnlabkbjacaaDoor
open Go.ChangeShapes Go.WideShapes Go.ChangeAt Go.RowKit
attribute [local go_sem] Gives
set_option maxHeartbeats 400000 in
theorem pkey_bad (K : Option Addr) (kn kcap : Nat) (A : Option Addr) (n cap : Nat) (rounds size : Int) (h : rounds < 1 ∨ 4096 < rounds ∨ size < 1 ∨ 128 < size) (w : World) :
    Calls Tryd.prog 11 #[.slice K kn kcap, .slice A n cap, .int .i64 rounds, .int .i64 size] w fun e w' => e = .returned (.tuple #[.slice none 0 0, .int .i64 2]) ∧ w = w' := by
  go_enter Tryd.func11, Tryd.ntmps11
  by_cases h1 : rounds < 1
  · have t1 : decide (rounds < 1) = true := decide_eq_true h1
    clear h
    go_wp2_with fail
    go_ret2
    exact ⟨rfl, rfl⟩
  · have t1 : decide (rounds < 1) = false := decide_eq_false h1
    by_cases h2 : 4096 < rounds
    · have t2 : decide ((4096 : Int) < rounds) = true := decide_eq_true h2
      clear h h1
      go_wp2_with fail
      go_ret2
      exact ⟨rfl, rfl⟩
    · have t2 : decide ((4096 : Int) < rounds) = false := decide_eq_false h2
      by_cases h3 : size < 1
      · have t3 : decide (size < 1) = true := decide_eq_true h3
        clear h h1 h2
        go_wp2_with fail
        go_ret2
        exact ⟨rfl, rfl⟩
      · have t3 : decide (size < 1) = false := decide_eq_false h3
        have t4 : decide ((128 : Int) < size) = true := decide_eq_true (by omega)
        clear h h1 h2 h3
        go_wp2_with fail
        go_ret2
        exact ⟨rfl, rfl⟩
theorem take_take32 (T : Nat → Nat) (m k : Nat) (h : m = min k 32) : (HmM.dl T).take k = (HmM.dl T).take m := by
  by_cases hk : k ≤ 32
  · rw [h, Nat.min_eq_left hk]
  · rw [h, Nat.min_eq_right (by omega), List.take_of_length_le (by rw [HmM.dl_length]; omega), List.take_of_length_le (by rw [HmM.dl_length]; omega)]
set_option maxHeartbeats 2000000 in
set_option maxRecDepth 100000 in
theorem pkey_any (K : Option Addr) (key : List Nat) (kn kcap : Nat) (A : Option Addr) (l : List Nat) (n cap rounds size : Nat) (hkn : kn ≤ 100000) (hn : n ≤ 100000) (hr : 1 ≤ rounds) (hr2 : rounds ≤ 4096) (hs : 1 ≤ size) (hs2 : size ≤ 128) (w : World) (hK : Arg w K key kn kcap) (hA : Arg w A l n cap) (hS : Salts w) :
    Calls Tryd.prog 11 #[.slice K kn kcap, .slice A n cap, .int .i64 rounds, .int .i64 size] w fun e w' => ∃ v, e = .returned (.tuple #[v, .int .i64 0]) ∧ Own 5 .u8 w' w.heap.size v (PbM.key key l rounds size) ∧ Below w.heap.size w w' := by
  have SA := hid hS
  have HK := hid hK
  have HA := hid hA
  have t1 : decide ((rounds : Int) < 1) = false := by simp; omega
  have t2 : decide ((4096 : Int) < (rounds : Int)) = false := by simp; omega
  have t3 : decide ((size : Int) < 1) = false := by simp; omega
  have t4 : decide ((128 : Int) < (size : Int)) = false := by simp; omega
  clear hS hK hA
  go_enter Tryd.func11, Tryd.ntmps11
  go_upto_region 5 with ((with_reducible apply mk0 (n := size)); omega; rfl; rfl; intro v3 w3 o3 b3)
  obtain ⟨A3, c3, e3, _⟩ := o3.any
  subst e3
  have O3 := hid o3
  have B3 := hid b3
  clear o3 b3 t1 t2 t3 t4
  go_loopw [10, 11] (fun u10 u11 wr => ∃ (j L x : Nat) (As : Option Addr) (cs : Nat), u10 = .slice As L cs ∧ u11 = .int .u8 x ∧ j ≤ 4 ∧ Hid (x = j + 1) ∧ x ≤ 5 ∧ Hid (L = min (32 * j) size) ∧ L ≤ size ∧ Hid (Own 5 .u8 wr w.heap.size u10 ((PbM.cat key l rounds j).take size)) ∧ Hid (Below w.heap.size w wr)) (fun u10 _ _ => size - lenOf u10)
  case atStart => exact ⟨0, 0, 1, A3, c3, rfl, rfl, by omega, hid rfl, by omega, hid (by omega), by omega, hid (by have := O3.out; simpa [PbM.cat] using this), B3⟩
  case round =>
    clear O3 B3
    obtain ⟨j, L, x, As, cs, rfl, rfl, hj, hx, hx5, hL, hLs, ho, hb⟩ := hrel
    have hzw := hb.out.size
    by_cases hlt : L < size
    · have t1 : decide (L < size) = true := decide_eq_true hlt
      have hLj : L = 32 * j := by have := hL.out; omega
      have hj3 : j ≤ 3 := by omega
      have HLJ := hid hLj
      have hx256 : x < 256 := by omega
      have KK := hid (HK.out.on hb.out)
      have AA := hid (HA.out.on hb.out)
      clear hLj
      go_wp2_with fail
      refine (blockof_any K key kn kcap A l n cap rounds x hkn hn hr (by omega) hx256 wr KK.out AA.out (SA.out.on hb.out)).mono ?_
      rintro e w5 ⟨rfl, h5⟩
      obtain ⟨T, hT⟩ : ∃ T, T = PbM.bl key l rounds x := ⟨_, rfl⟩
      rw [← hT]
      have HT := hid hT
      have hT256 : ∀ k, T k < 256 := fun k => by rw [hT]; exact PbM.bl_256 _ _ _ _ k
      have HT256 := hid hT256
      have B5 := hid (hb.out.trans (h5.mono hzw))
      have O5 := hid (ho.out.below h5)
      have hz5 := B5.out.size
      clear hT hT256 h5 KK AA ho
      go_upto_region 8 with ((with_reducible apply stt); rfl; rfl; exact Blk.top zlit_tag rfl)
      generalize hw6 : World.setRow _ _ _ = w6
      obtain ⟨g6, hg6⟩ : ∃ g, g = w5.heap.size := ⟨_, rfl⟩
      have d6 : Blk w6 g6 43 (tag T) := by rw [← hw6, hg6]; exact (Blk.top zlit_tag rfl).setRow_same _
      have b56 : Below w5.heap.size w5 w6 := by rw [← hw6]; exact below_setRow ((Below.refl _ _).alloc (Nat.le_refl _) _) (Nat.le_refl _) _
      rw [← hg6]
      have O6 := hid (O5.out.below b56)
      have B6 := hid (B5.out.trans (b56.mono hz5))
      have D6 := hid d6
      have hz6 := B6.out.size
      have hg6l := d6.lt
      clear hw6 d6 b56 hg6 O5 B5 hz5
      have hol : ((PbM.cat key l rounds j).take size).length = L := by rw [List.length_take, PbM.cat_length, HLJ.out]; have := HLJ.out; omega
      have HOL := hid hol
      have hx6 : x + 1 ≤ 5 := by have := hx.out; omega
      clear hol
      by_cases h32 : 32 < size - L
      · have t32 : (32 : Int) < (size : Int) - (L : Int) := by omega
        have hm32 : 32 ≤ 32 := by omega
        have hmin : 32 = min (size - 32 * j) 32 := by have := HLJ.out; omega
        have hnm : Nums .u8 w6 w6.heap.size (some ⟨g6, 0, none⟩) ((HmM.dl T).take 32) := ((tag_byt D6.out hg6l).take 32).nums
        have hlm : ((HmM.dl T).take 32).length = 32 := by rw [List.length_take, HmM.dl_length]; omega
        have NM := hid hnm
        have HLM := hid hlm
        have hch : (PbM.cat key l rounds (j + 1)).take size = (PbM.cat key l rounds j).take size ++ (HmM.dl T).take 32 := by
          rw [PbM.cat_step key l rounds j size (by have := HLJ.out; omega), ← hx.out, ← HT.out, take_take32 T 32 _ hmin]
        have HCH := hid hch
        clear hnm hlm hch hmin
        go_upto_region 6 with (at_builtin; (with_reducible apply wappW eltB); rfl; rfl; (intro h; cases h); exact O6.out; exact NM.out; exact HLM.out; (rw [HOL.out]; omega); exact hz6; intro v7 w7 o7 g7 p7)
        have b7 := below_grown B6.out g7 O6.out (Nat.le_refl _) (Nat.le_refl _)
        obtain ⟨A7, c7, e7, _⟩ := o7.any
        have hl7 : ((PbM.cat key l rounds j).take size ++ (HmM.dl T).take 32).length = L + 32 := by rw [List.length_append, HOL.out, HLM.out]
        rw [hl7] at e7
        subst e7
        have O7 := hid o7
        have B7 := hid b7
        clear o7 b7 g7 p7 hl7
        go_wp2_with fail
        go_roundw
        case rel =>
          repeat apply Exists.intro
          exact ⟨⟨j + 1, L + 32, x + 1, A7, c7, rfl, rfl, by omega, hid (by have := hx.out; omega), hx6, hid (by have := HLJ.out; omega), by omega, hid (by rw [HCH.out]; exact O7.out), B7⟩, rfl⟩
        case measure => simp [lenOf] <;> omega
      · have t32 : (size : Int) - (L : Int) ≤ 32 := by omega
        have hm32 : size - L ≤ 32 := by omega
        have hmin : size - L = min (size - 32 * j) 32 := by have := HLJ.out; omega
        have hnm : Nums .u8 w6 w6.heap.size (some ⟨g6, 0, none⟩) ((HmM.dl T).take (size - L)) := ((tag_byt D6.out hg6l).take (size - L)).nums
        have hlm : ((HmM.dl T).take (size - L)).length = size - L := by rw [List.length_take, HmM.dl_length]; omega
        have NM := hid hnm
        have HLM := hid hlm
        have hch : (PbM.cat key l rounds (j + 1)).take size = (PbM.cat key l rounds j).take size ++ (HmM.dl T).take (size - L) := by
          rw [PbM.cat_step key l rounds j size (by have := HLJ.out; omega), ← hx.out, ← HT.out, take_take32 T (size - L) _ hmin]
        have HCH := hid hch
        clear hnm hlm hch hmin
        go_upto_region 6 with (at_builtin; (with_reducible apply wappW eltB); rfl; rfl; (intro h; cases h); exact O6.out; exact NM.out; exact HLM.out; (rw [HOL.out]; omega); exact hz6; intro v7 w7 o7 g7 p7)
        have b7 := below_grown B6.out g7 O6.out (Nat.le_refl _) (Nat.le_refl _)
        obtain ⟨A7, c7, e7, _⟩ := o7.any
        have hl7 : ((PbM.cat key l rounds j).take size ++ (HmM.dl T).take (size - L)).length = L + (size - L) := by rw [List.length_append, HOL.out, HLM.out]
        rw [hl7] at e7
        subst e7
        have O7 := hid o7
        have B7 := hid b7
        clear o7 b7 g7 p7 hl7
        go_wp2_with fail
        go_roundw
        case rel =>
          repeat apply Exists.intro
          exact ⟨⟨j + 1, L + (size - L), x + 1, A7, c7, rfl, rfl, by omega, hid (by have := hx.out; omega), hx6, hid (by have := HLJ.out; omega), by omega, hid (by rw [HCH.out]; exact O7.out), B7⟩, rfl⟩
        case measure => simp [lenOf] <;> omega
    · have t1 : decide (L < size) = false := decide_eq_false hlt
      obtain rfl : L = size := by omega
      have hj4 : L ≤ 32 * j := by have := hL.out; omega
      have hst : (PbM.cat key l rounds j).take L = PbM.key key l rounds L := PbM.key_any key l rounds hj4 hj
      have o1 := ho.out
      rw [hst] at o1
      have O1 := hid o1
      have BF := hid hb.out
      clear o1 ho hst hb
      go_wp2_with fail
      go_ret2
      exact ⟨_, rfl, O1.out, BF.out⟩
end Go.Proofs.YtnnhnlabkbjacaaDoor
