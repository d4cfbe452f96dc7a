/-
  Contract of the document's tag (casemateref04.Of) over this translation.
-/
import Derived.Test.YtfgmgfniolmpkaaDoorHRef
import Derived.Laws.BitsAllLaws
namespace Go.Proofs.YtfgmgfniolmpkaaDoor
open Go.ChangeShapes Go.WideShapes Go.ChangeAt Go.RowKit
attribute [local go_sem] Gives
set_option maxHeartbeats 2000000 in
set_option maxRecDepth 100000 in
theorem rof_any (K : Option Addr) (key : List Nat) (kn kcap : Nat) (hkl : key.length = kn) (hkn : kn ≤ 100000) (hk0 : K = none → kn = 0 ∧ kcap = 0) (hk256 : B256 key)
    (A : Option Addr) (l : List Nat) (n cap : Nat) (hl : l.length = n) (hn : n ≤ 90000) (h0 : A = none → n = 0 ∧ cap = 0) (h256 : B256 l) (w : World) (hK : Byt w w.heap.size K key) (hA : Byt w w.heap.size A l) :
    Calls Tryd.prog 12 #[.slice K kn kcap, .slice A n cap] w fun e w' => e = .returned (.agg (tag (HmM.tag key l))) ∧ Below w.heap.size w w' := by
  have hbl := HmM.blk_length key
  have hb256 := HmM.blk_256 hk256
  have RB := hid fun (w : World) (hK : Byt w w.heap.size K key) => rblock_any K key kn kcap hkl hkn hk0 hk256 w hK
  have htag : HmM.tag key l = ShaM.sum (HmM.pad 92 (HmM.blk key) ++ HmM.dl (ShaM.sum (HmM.pad 54 (HmM.blk key) ++ l))) := rfl
  rw [htag]
  clear htag
  generalize HmM.blk key = bk at *
  obtain ⟨I, hI⟩ : ∃ I, I = HmM.pad 54 bk := ⟨_, rfl⟩
  obtain ⟨O, hO⟩ : ∃ O, O = HmM.pad 92 bk := ⟨_, rfl⟩
  have hIl : I.length = 64 := by rw [hI, HmM.pad_length, hbl]
  have hOl : O.length = 64 := by rw [hO, HmM.pad_length, hbl]
  have hI256 : B256 I := by rw [hI]; exact HmM.pad_256 (by omega) hb256
  have hO256 : B256 O := by rw [hO]; exact HmM.pad_256 (by omega) hb256
  have hIst : ∀ i, i < 64 → I.take (i + 1) = I.take i ++ [bk.getD i 0 ^^^ 54] := fun i hi => by rw [hI]; exact pad_take 54 bk (by rw [hbl]; exact hi)
  have hOst : ∀ i, i < 64 → O.take (i + 1) = O.take i ++ [bk.getD i 0 ^^^ 92] := fun i hi => by rw [hO]; exact pad_take 92 bk (by rw [hbl]; exact hi)
  rw [← hI, ← hO]
  have HK := hid hK
  have HA := hid hA
  have HL := hid hl
  have HBL := hid hbl
  have HB256 := hid hb256
  have HIL := hid hIl
  have HOL := hid hOl
  have HI256 := hid hI256
  have HO256 := hid hO256
  have HIST := hid hIst
  have HOST := hid hOst
  have H256 := hid h256
  clear hI hO hIst hOst hIl hOl hI256 hO256 hK hA hl hbl hb256 h256 hkl hk256
  go_enter Tryd.func12, Tryd.ntmps12
  go_upto_region 1 with fail
  generalize hw1 : World.alloc w _ = w1
  have b1 : Blk w1 w.heap.size 25 (tag fun _ => 0) := by rw [← hw1]; exact Blk.top zlit_tag rfl
  have hb : Below w.heap.size w w1 := by rw [← hw1]; exact (Below.refl _ _).alloc (Nat.le_refl _) _
  clear hw1
  have B1 := hid b1
  have BEL := hid hb
  clear b1 hb
  go_wp2_with fail
  refine (RB.out w1 ((HK.out.below BEL.out (Nat.le_refl _)).more BEL.out.size)).mono ?_
  rintro e w3 ⟨Ab, cb, rfl, _, _, nb, h3⟩
  rw [HBL.out]
  obtain ⟨bb, ob, rfl, hBb, hrb⟩ := nb (by rw [HBL.out]; omega)
  rw [HBL.out] at hrb
  have HRB := hid hrb
  have B3 := hid (B1.out.below h3 B1.out.lt)
  have BEL3 := hid (BEL.out.trans (h3.mono BEL.out.size))
  have hz13 := h3.size
  have hwz : w.heap.size < w3.heap.size := Nat.lt_of_lt_of_le B1.out.lt h3.size
  clear nb hrb h3 B1 BEL RB
  go_wp2_with fail
  go_loopw [6, 7, 8] (fun u1 u2 v wr => ∃ (i : Nat) (vi vo : Value), i ≤ 64 ∧ v = .int .i64 i ∧ u1 = vi ∧ u2 = vo ∧ Hid (Own 5 .u8 wr w3.heap.size vi (I.take i)) ∧ Hid (Own 5 .u8 wr w3.heap.size vo (O.take i)) ∧ Hid (Apart vi vo) ∧ Hid (Below w3.heap.size w3 wr)) (fun _ _ v _ => 64 - (intOf v).toNat)
  case atStart => exact ⟨0, _, _, by omega, rfl, rfl, rfl, hid Own.nil, hid Own.nil, hid (Apart.nil _), hid (Below.refl _ _)⟩
  case round =>
    obtain ⟨i, vi, vo, hi, rfl, rfl, rfl, ho1, ho2, hap, hb⟩ := hrel
    have hzw := hb.out.size
    by_cases hlt : i < 64
    · have ti : (i : Int) < 64 := by omega
      have hIs := HIST.out i hlt
      have hOs := HOST.out i hlt
      have q1 : wr.cell? ⟨bb, ob + i, none⟩ = some (.int .u8 (bk.getD i 0 : Nat)) := (hb.out.cell (p := ⟨bb, ob + i, none⟩) hBb).trans (HRB.out i hlt)
      have hx : bk.getD i 0 < 256 := ShaM.getD_lt (by omega) HB256.out i
      obtain ⟨x, hxx⟩ : ∃ x, x = bk.getD i 0 := ⟨_, rfl⟩
      rw [← hxx] at hIs hOs q1 hx
      have e1 : bits .xor .u8 (x : Int) 54 = ((x ^^^ 54 : Nat) : Int) := u8_xor_nat x 54 hx (by omega)
      have e2 : bits .xor .u8 (x : Int) 92 = ((x ^^^ 92 : Nat) : Int) := u8_xor_nat x 92 hx (by omega)
      obtain ⟨y, hy⟩ : ∃ y, y = x ^^^ 54 := ⟨_, rfl⟩
      obtain ⟨z, hz⟩ : ∃ z, z = x ^^^ 92 := ⟨_, rfl⟩
      rw [← hy] at e1 hIs
      rw [← hz] at e2 hOs
      have HIS := hid hIs
      have HOS := hid hOs
      have HQ := hid fun (w' : World) (h : Below w3.heap.size w3 w') => (h.cell (p := ⟨bb, ob + i, none⟩) hBb).trans (HRB.out i hlt)
      have HXX := hid hxx
      have HLI := hid (show (I.take i).length = i by rw [List.length_take, HIL.out]; omega)
      have HLO := hid (show (O.take i).length = i by rw [List.length_take, HOL.out]; omega)
      clear hIs hOs hxx hy hz
      go_upto_region 8 with (at_builtin; (with_reducible apply wappW eltB); rfl; rfl; (intro h; cases h); exact ho1.out.alloc _; exact nums_one (x := y) (B := wr.heap.size + 1) rfl (Nat.lt_succ_self _); rfl; (rw [HLI.out]; omega); (simp; omega); intro v1 w4 o4 g4 p4)
      have b4 := below_grown (hb.out.alloc hzw (.cells #[.int .u8 (y : Nat)] 5)) g4 ho1.out (Nat.le_refl _) (Nat.le_refl _)
      have k4 := (ho2.out.alloc (.cells #[.int .u8 (y : Nat)] 5)).keep g4 hap.out.symm
      have a4 := hap.out.symm.app (ho2.out.alloc (.cells #[.int .u8 (y : Nat)] 5)) p4
      have q4 := HQ.out w4 b4
      rw [← HXX.out] at q4
      have O4 := hid o4
      have K4 := hid k4
      have A4 := hid a4
      have B4 := hid b4
      have hz4 := b4.size
      clear o4 k4 a4 b4 g4 p4 q1 ho1 ho2
      go_wp2_with (at_builtin; (with_reducible apply wappW eltB); rfl; rfl; (intro h; cases h); exact K4.out.alloc _; exact nums_one (x := z) (B := w4.heap.size + 1) rfl (Nat.lt_succ_self _); rfl; (rw [HLO.out]; omega); (simp; omega); intro v2 w5 o5 g5 p5)
      have b5 := below_grown (B4.out.alloc hz4 (.cells #[.int .u8 (z : Nat)] 5)) g5 K4.out (Nat.le_refl _) (Nat.le_refl _)
      have k5 := (O4.out.alloc (.cells #[.int .u8 (z : Nat)] 5)).keep g5 A4.out.symm
      have a5 := A4.out.symm.app (O4.out.alloc (.cells #[.int .u8 (z : Nat)] 5)) p5
      go_roundw
      case rel => exact ⟨i + 1, v1, v2, by omega, by go_num, rfl, rfl, hid (by rw [HIS.out]; exact k5), hid (by rw [HOS.out]; exact o5), hid a5, hid b5⟩
      case measure => simp [intOf] <;> omega
    · obtain rfl : i = 64 := by omega
      have oi := ho1.out
      have oo := ho2.out
      rw [List.take_of_length_le (by rw [HIL.out]; omega)] at oi
      rw [List.take_of_length_le (by rw [HOL.out]; omega)] at oo
      have OI := hid oi
      have OO := hid oo
      have BR := hid (BEL3.out.trans (hb.out.mono BEL3.out.size))
      have hbz := BR.out.size
      clear oi oo ho1 ho2
      rw [show ((64 : Nat) : Int) = (64 : Int) from rfl]
      go_upto_region 10 with (at_builtin; (with_reducible apply wappW eltB); rfl; rfl; exact h0; exact OI.out; exact ((HA.out.below BR.out (Nat.le_refl _)).more hbz).nums; exact HL.out; (rw [HIL.out]; omega); exact hzw; intro v1 w4 o4 g4 p4)
      have b4 := below_grown hb.out g4 OI.out (Nat.le_refl _) (Nat.le_refl _)
      have k4 := OO.out.keep g4 hap.out.symm
      obtain ⟨A5, c5, e5, _, _, n5⟩ := o4.any
      have hl5 : (I ++ l).length = 64 + n := by rw [List.length_append, HIL.out, HL.out]
      obtain ⟨N, hN⟩ : ∃ N, N = 64 + n := ⟨_, rfl⟩
      rw [← hN] at hl5
      rw [hl5] at e5
      subst e5
      have hA5 : A5 = none → N = 0 ∧ c5 = 0 := fun e => by
        subst e
        exfalso
        obtain ⟨_, _, e', _⟩ := n5 (by rw [hl5]; omega)
        cases e'
      have K4 := hid k4
      have B4 := hid b4
      have N5 := hid n5
      have HA5 := hid hA5
      have HL5 := hid hl5
      have hN9 : N ≤ 100000 := by omega
      clear k4 b4 n5 hA5 hl5 o4 g4 p4 OI OO hN
      go_wp2_with fail
      refine (rsum_any A5 (I ++ l) N c5 HL5.out hN9 HA5.out (HI256.out.append H256.out) w4 N5.out.byt).mono ?_
      rintro e w6 ⟨rfl, h6⟩
      obtain ⟨D, hD⟩ : ∃ D, D = ShaM.sum (I ++ l) := ⟨_, rfl⟩
      have hD256 : ∀ k, D k < 256 := fun k => by rw [hD]; exact HmM.sum_256 _ k
      rw [← hD]
      have HD := hid hD
      have HD256 := hid hD256
      have hz6 := h6.size
      have K6 := hid (K4.out.below h6)
      have B6 := hid (B4.out.trans (h6.mono B4.out.size))
      have hz46 := B6.out.size
      clear hD hD256 h6 K4 B4 N5
      go_upto_region 11 with ((with_reducible apply stt); rfl; rfl; exact Blk.top zlit_tag rfl)
      generalize hw7 : World.setRow _ _ _ = w7
      obtain ⟨g, hg⟩ : ∃ g, g = w6.heap.size := ⟨_, rfl⟩
      have d7 : Blk w7 g 25 (tag D) := by rw [← hw7, hg]; exact (Blk.top zlit_tag rfl).setRow_same _
      have b67 : Below w6.heap.size w6 w7 := by rw [← hw7]; exact below_setRow ((Below.refl _ _).alloc (Nat.le_refl _) _) (Nat.le_refl _) _
      have K7 := hid (K6.out.below b67)
      have B7 := hid (B6.out.trans (b67.mono hz46))
      have hne : u7.ownBlock ≠ some g := fun e => by
        have := (World.ownsRow.lt K6.out g e).2
        omega
      have hgz : w3.heap.size ≤ g := by omega
      rw [← hg]
      have D7 := hid d7
      have HNE := hid hne
      clear hw7 b67 d7 hne hg K6 B6
      have k7 := K7.out
      rw [show O = O ++ (HmM.dl D).take 0 by simp] at k7
      have K70 := hid k7
      clear k7 K7
      go_wp2_with fail
      go_loopw [7, 10] (fun u v wr => ∃ (i : Nat) (vo : Value), i ≤ 32 ∧ v = .int .i64 i ∧ u = vo ∧ Hid (Own 5 .u8 wr w3.heap.size vo (O ++ (HmM.dl D).take i)) ∧ Hid (vo.ownBlock ≠ some g) ∧ Hid (Blk wr g 25 (tag D)) ∧ Hid (Below w3.heap.size w3 wr)) (fun _ v _ => 32 - (intOf v).toNat)
      case atStart => exact ⟨0, _, by omega, rfl, rfl, K70, HNE, D7, B7⟩
      case round =>
        clear K70 HNE D7 B7
        obtain ⟨i, vo, hi, rfl, rfl, ho, hne, hd, hb⟩ := hrel
        have hzw := hb.out.size
        by_cases hlt : i < 32
        · have ti : (i : Int) < 32 := by omega
          have q1 := (hd.out.cell i).trans (get_tag hlt)
          have hst : O ++ (HmM.dl D).take (i + 1) = (O ++ (HmM.dl D).take i) ++ [D i] := by rw [dl_take _ hlt, List.append_assoc]
          have hlen : (O ++ (HmM.dl D).take i).length = 64 + i := by rw [List.length_append, HOL.out, List.length_take, HmM.dl_length]; omega
          have hx := HD256.out i
          generalize D i = x at *
          have HST := hid hst
          have HLEN := hid hlen
          clear hst hlen
          go_wp2_with (at_builtin; (with_reducible apply wappW eltB); rfl; rfl; (intro h; cases h); exact ho.out.alloc _; exact nums_one (x := x) (B := wr.heap.size + 1) rfl (Nat.lt_succ_self _); rfl; (rw [HLEN.out]; omega); (simp; omega); intro v' w4 o4 g4 p4)
          have b4 := below_grown (hb.out.alloc hzw (.cells #[.int .u8 (x : Nat)] 5)) g4 ho.out (Nat.le_refl _) (Nat.le_refl _)
          have d4 := (hd.out.alloc (.cells #[.int .u8 (x : Nat)] 5)).apart g4 hne.out
          have n4 : v'.ownBlock ≠ some g := by
            rcases p4 with p4 | p4
            · rw [p4]; exact hne.out
            · rw [p4]; intro e; have := hd.out.lt; simp at e; omega
          go_roundw
          case rel => exact ⟨i + 1, v', by omega, by go_num, rfl, hid (by rw [HST.out]; exact o4), hid n4, hid d4, hid b4⟩
          case measure => simp [intOf] <;> omega
        · obtain rfl : i = 32 := by omega
          have o9 := ho.out
          rw [dl_full] at o9
          obtain ⟨A9, c9, e9, _, _, n9⟩ := o9.any
          have hl9 : (O ++ HmM.dl D).length = 96 := by rw [List.length_append, HOL.out, HmM.dl_length]
          rw [hl9] at e9
          subst e9
          have hA9 : A9 = none → (96 : Nat) = 0 ∧ c9 = 0 := fun e => by
            subst e
            exfalso
            obtain ⟨_, _, e', _⟩ := n9 (by rw [hl9]; omega)
            cases e'
          have N9 := hid n9
          have HA9 := hid hA9
          have HL9 := hid hl9
          have BR := hid (BEL3.out.trans (hb.out.mono BEL3.out.size))
          have b9 := B3.out.below hb.out hwz
          have B9 := hid b9
          clear n9 hA9 hl9 o9 ho hd b9
          go_wp2_with fail
          refine (rsum_any A9 (O ++ HmM.dl D) 96 c9 HL9.out (by omega) HA9.out (HO256.out.append (HmM.dl_256 HD256.out)) wr N9.out.byt).mono ?_
          rintro e w5 ⟨rfl, h5⟩
          have c1 := B9.out.below h5 B9.out.lt
          have b5 := BR.out.trans (h5.mono BR.out.size)
          clear h5
          go_wp2_with ((with_reducible apply stt); rfl; rfl; exact c1)
          apply ret_row Tryd.results12
          · exact c1.setRow_same _
          · exact Tryd.underlying25
          · rfl
          · exact (info_tag.trans (by rw [size_tag]))
          · rfl
          · rfl
          exact ⟨by rw [HD.out], below_setRow b5 (Nat.le_refl _) _⟩
end Go.Proofs.YtfgmgfniolmpkaaDoor
