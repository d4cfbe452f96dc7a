/-
  Contracts of the document's stretches (casemateref04.Bytes, Stretch) over this translation.
-/
import Derived.Test.YtfgmgfniolmpkaaDoorHRef2
import Derived.Test.YtfgmgfniolmpkaaDoorStr
import Derived.Test.YtfgmgfniolmpkaaDoorHStr
namespace Go.Proofs.YtfgmgfniolmpkaaDoor
open Go.ChangeShapes Go.WideShapes Go.ChangeAt Go.RowKit
attribute [local go_sem] Gives
set_option maxHeartbeats 400000 in
set_option maxRecDepth 100000 in
theorem rbytes_any (f : Nat → Nat) (hf : ∀ k, f k < 256) (w : World) :
    Calls Tryd.prog 25 #[.agg (tag f)] w fun e w' => ∃ v, e = .returned v ∧ Own 5 .u8 w' w.heap.size v (HmM.dl f) ∧ Below w.heap.size w w' := by
  have HF := hid hf
  clear hf
  go_enter Tryd.func25, Tryd.ntmps25
  go_upto_region 1 with fail
  generalize hw1 : World.alloc w _ = w1
  have b1 : Blk w1 w.heap.size 25 (tag f) := by rw [← hw1]; exact Blk.top rfl rfl
  have hb : Below w.heap.size w w1 := by rw [← hw1]; exact (Below.refl _ _).alloc (Nat.le_refl _) _
  clear hw1
  have B1 := hid b1
  have BEL := hid hb
  have hgl := b1.lt
  clear b1 hb
  go_wp2_with fail
  go_loopw [3, 4] (fun u v wr => ∃ (i : Nat) (vo : Value), i ≤ 32 ∧ v = .int .i64 i ∧ u = vo ∧ Hid (Own 5 .u8 wr w1.heap.size vo ((HmM.dl f).take i)) ∧ Hid (Below w1.heap.size w1 wr)) (fun _ v _ => 32 - (intOf v).toNat)
  case atStart => exact ⟨0, _, by omega, rfl, rfl, hid Own.nil, hid (Below.refl _ _)⟩
  case round =>
    obtain ⟨i, vo, hi, rfl, rfl, ho, hb⟩ := hrel
    have hzw := hb.out.size
    by_cases hlt : i < 32
    · have ti : (i : Int) < 32 := by omega
      have q1 := ((B1.out.below hb.out hgl).cell i).trans (get_tag hlt)
      have hst := dl_take f hlt
      have hlen : ((HmM.dl f).take i).length = i := by rw [List.length_take, HmM.dl_length]; omega
      have hx := HF.out i
      generalize f i = x at *
      have HST := hid hst
      have HLEN := hid hlen
      clear hst hlen
      go_wp2_with (at_builtin; (with_reducible apply wappN eltB); rfl; rfl; exact ho.out.alloc _; exact nums_one (x := x) (B := wr.heap.size + 1) rfl (Nat.lt_succ_self _); rfl; (rw [HLEN.out]; omega); (simp; omega); intro v' w4 o4 g4)
      have b4 := below_grown (hb.out.alloc hzw (.cells #[.int .u8 (x : Nat)] 5)) g4 ho.out (Nat.le_refl _) (Nat.le_refl _)
      go_roundw
      case rel => exact ⟨i + 1, v', by omega, by go_num, rfl, hid (by rw [HST.out]; exact o4), hid b4⟩
      case measure => simp [intOf] <;> omega
    · obtain rfl : i = 32 := by omega
      have o9 := ho.out
      rw [dl_full] at o9
      have hfin := hid (BEL.out.trans (hb.out.mono BEL.out.size))
      have O9 := hid (o9.lower BEL.out.size)
      clear o9 ho
      go_wp2_with fail
      go_ret
      exact ⟨_, rfl, O9.out, hfin.out⟩
theorem rbad_any (K : Option Addr) (kn kcap : Nat) (A : Option Addr) (n cap : Nat) (size : Int) (h : size < 0 ∨ 8160 < size) (w : World) :
    Calls Tryd.prog 17 #[.slice K kn kcap, .slice A n cap, .int .i64 size] w fun e w' => e = .returned (.tuple #[.slice none 0 0, .int .i64 2]) ∧ w = w' := by
  go_enter Tryd.func17, Tryd.ntmps17
  by_cases h1 : size < 0
  · have t1 : decide (size < 0) = true := decide_eq_true h1
    go_wp2_with fail
    go_ret2
    exact ⟨rfl, rfl⟩
  · have t1 : decide (size < 0) = false := decide_eq_false h1
    have t2 : decide ((8160 : Int) < size) = true := decide_eq_true (by omega)
    clear h
    go_wp2_with fail
    go_ret2
    exact ⟨rfl, rfl⟩
set_option maxHeartbeats 2000000 in
set_option maxRecDepth 100000 in
theorem rstretch_any (K : Option Addr) (key : List Nat) (kn kcap : Nat) (A : Option Addr) (l : List Nat) (n cap size : Nat) (hkn : kn ≤ 50000) (hn : n ≤ 50000) (hs : size ≤ 8160) (w : World) (hK : Arg w K key kn kcap) (hA : Arg w A l n cap) :
    Calls Tryd.prog 17 #[.slice K kn kcap, .slice A n cap, .int .i64 size] w fun e w' => ∃ Ar cr, e = .returned (.tuple #[.slice Ar size cr, .int .i64 0]) ∧ Arg w' Ar (HmM.stretch key l size) size cr ∧ Below w.heap.size w w' := by
  have HK := hid hK
  have HA := hid hA
  clear hK hA
  go_enter Tryd.func17, Tryd.ntmps17
  go_wp2_with fail
  go_loopw [8, 9, 10] (fun u8 u9 u10 wr => ∃ (j L na : Nat) (As Aa : Option Addr) (cs ca : Nat), u8 = .slice As L cs ∧ u9 = .slice Aa na ca ∧ u10 = .int .i64 j ∧ Hid (L = 32 * j) ∧ j ≤ 255 ∧ Hid (Own 5 .u8 wr w.heap.size u8 (HmM.chain key l j)) ∧ Hid (Arg wr Aa (HmM.link key l j) na ca) ∧ Hid (Below w.heap.size w wr)) (fun u8 _ _ _ => size - lenOf u8)
  case atStart => exact ⟨0, 0, 0, .none, .none, 0, 0, rfl, rfl, rfl, hid rfl, by omega, hid Own.nil, hid ⟨rfl, Nat.le_refl _, Nat.zero_le _, (fun x hx => by cases hx), fun _ => ⟨rfl, rfl⟩, Byt.none rfl⟩, hid (Below.refl _ _)⟩
  case round =>
    obtain ⟨j, L, na, As, Aa, cs, ca, rfl, rfl, rfl, hL, hj, ho, ha, hb⟩ := hrel
    have hzw := hb.out.size
    have hL8 : L ≤ 8160 := by have := hL.out; omega
    by_cases hlt : L < size
    · have t1 : decide (L < size) = true := decide_eq_true hlt
      have hj2 : j ≤ 254 := by have := hL.out; omega
      have hna : na ≤ 32 := by
        rw [← ha.out.len]
        cases j with
        | zero => exact Nat.zero_le _
        | succ j => rw [HmM.link_length]; omega
      have hA' := HA.out.on hb.out
      have HA' := hid hA'
      clear hA'
      go_upto_region 10 with (at_builtin; (with_reducible apply wappN_any eltB); rfl; rfl; exact ha.out.none; exact (Own.nil (e := 5) (k := .u8) (w := wr) (B := wr.heap.size)); exact ha.out.byt.nums; exact ha.out.len; (rw [List.length_nil]; omega); exact Nat.le_refl _; intro v1 w1 o1 g1)
      rw [List.nil_append] at o1
      have b1 := below_grown (Below.refl wr.heap.size wr) g1 (Own.nil (e := 5) (k := .u8) (w := wr) (B := wr.heap.size)) (Nat.le_refl _) (Nat.le_refl _)
      have O1 := hid o1
      have B1 := hid b1
      have hz1 := b1.size
      clear o1 b1 g1
      go_upto_region 11 with (at_builtin; (with_reducible apply wappN_any eltB); rfl; rfl; exact HA'.out.none; exact O1.out; exact (HA'.out.on B1.out).byt.nums; exact HA'.out.len; (rw [ha.out.len]; omega); exact hz1; intro v2 w2 o2 g2)
      have b2 := below_grown B1.out g2 O1.out (Nat.le_refl _) (Nat.le_refl _)
      have O2 := hid o2
      have B2 := hid b2
      have hz2 := b2.size
      clear o2 b2 g2 O1 B1
      obtain ⟨x, hx⟩ : ∃ x, x = (j + 1) % 256 := ⟨_, rfl⟩
      have hxj : ((j : Int) + 1) % 256 = (x : Int) := by omega
      have hx1 : x = j + 1 := by omega
      have hlen2 : (HmM.link key l j ++ l).length = na + n := by rw [List.length_append, ha.out.len, HA'.out.len]
      have HX := hid hx
      have HL2 := hid hlen2
      have HXJ := hid hx1
      clear hx hlen2 hxj hx1
      go_upto_region 12 with (at_builtin; (with_reducible apply wappN eltB); rfl; rfl; exact O2.out.alloc _; exact nums_one (x := x) (B := w2.heap.size + 1) (congrArg (Value.int .u8) (by have := HXJ.out; omega)) (Nat.lt_succ_self _); rfl; (rw [HL2.out]; omega); (simp; omega); intro v3 w3 o3 g3)
      have b3 := below_grown (B2.out.alloc hz2 _) g3 O2.out (Nat.le_refl _) (Nat.le_refl _)
      have h256 : B256 (HmM.link key l j ++ l ++ [x]) := (ha.out.b256.append HA.out.b256).append fun y hy => by rw [List.mem_singleton.1 hy, HX.out]; omega
      obtain ⟨A3, c3, e3, a3⟩ := o3.arg h256
      have hlen3 : (HmM.link key l j ++ l ++ [x]).length = na + n + 1 := by rw [List.length_append, HL2.out]; rfl
      rw [hlen3] at e3 a3
      subst e3
      have A3' := hid a3
      have B3 := hid b3
      have hbw := hb.out.trans (b3.mono hzw)
      have KW := hid (HK.out.on hbw)
      have O3 := hid (ho.out.below b3)
      have BW := hid hbw
      have hN : na + n + 1 ≤ 90000 := by omega
      obtain ⟨N, hNe⟩ : ∃ N, N = na + n + 1 := ⟨_, rfl⟩
      rw [← hNe] at A3' hN ⊢
      clear o3 b3 g3 a3 hlen3 h256 hbw O2 B2 ho ha HA' hNe
      go_wp2_with fail
      refine (rof_any K key kn kcap KW.out.len (by omega) KW.out.none KW.out.b256 A3 _ N c3 A3'.out.len hN A3'.out.none A3'.out.b256 w3 KW.out.byt A3'.out.byt).mono ?_
      rintro e w4 ⟨rfl, h4⟩
      obtain ⟨T, hT⟩ : ∃ T, T = HmM.tag key (HmM.link key l j ++ l ++ [x]) := ⟨_, rfl⟩
      rw [← hT]
      have hlink : HmM.link key l (j + 1) = HmM.dl T := by rw [hT, HX.out]; rfl
      have hT256 : ∀ k, T k < 256 := fun k => by rw [hT]; exact HmM.tag_256 _ _ k
      have HLK := hid hlink
      have HT256 := hid hT256
      have O4 := hid (O3.out.below h4)
      have B4 := hid (BW.out.trans (h4.mono BW.out.size))
      have hz4 := B4.out.size
      clear hT hlink hT256 h4 A3' KW O3 BW B3
      go_upto_region 13 with ((with_reducible apply stt); rfl; rfl; exact Blk.top zlit_tag rfl)
      generalize hw5 : World.setRow _ _ _ = w5
      obtain ⟨g5, hg5⟩ : ∃ g, g = w4.heap.size := ⟨_, rfl⟩
      have d5 : Blk w5 g5 25 (tag T) := by rw [← hw5, hg5]; exact (Blk.top zlit_tag rfl).setRow_same _
      have b45 : Below w4.heap.size w4 w5 := by rw [← hw5]; exact below_setRow ((Below.refl _ _).alloc (Nat.le_refl _) _) (Nat.le_refl _) _
      rw [← hg5]
      have O5 := hid (O4.out.below b45)
      have B5 := hid (B4.out.trans (b45.mono hz4))
      have D5 := hid d5
      clear hw5 d5 b45 hg5 O4 B4 hz4
      have d5' := D5.out
      go_wp2_with ((with_reducible apply ldt); rfl; exact d5')
      clear d5'
      refine (rbytes_any T HT256.out w5).mono ?_
      rintro e w6 ⟨v6, rfl, o6, h6⟩
      obtain ⟨A6, c6, e6, a6⟩ := o6.arg (HmM.dl_256 HT256.out)
      rw [HmM.dl_length] at e6 a6
      have hlc : (HmM.chain key l j).length = L := by rw [HmM.chain_length]; exact hL.out.symm
      have O6 := hid (O5.out.below h6)
      have B6 := hid (B5.out.trans (h6.mono B5.out.size))
      have hap : Apart v6 (Value.slice As L cs) := fun g hg hg2 => by
        have h1 := (World.ownsRow.lt o6 g hg).1
        have h2 := (World.ownsRow.lt O5.out g hg2).2
        omega
      subst e6
      have A6' := hid a6
      have L6 := hid o6
      have HAP := hid hap
      have hz6 := B6.out.size
      have HLC := hid hlc
      have hz56 := h6.size
      have hz05 := B5.out.size
      clear a6 h6 hlc O5 B5 D5 o6 hap
      go_upto_region 6 with (at_builtin; (with_reducible apply wappN_any eltB); rfl; rfl; exact A6'.out.none; exact O6.out; exact A6'.out.byt.nums; exact A6'.out.len; (rw [HLC.out]; omega); exact hz6; intro v7 w7 o7 g7)
      have b7 := below_grown B6.out g7 O6.out (Nat.le_refl _) (Nat.le_refl _)
      have l7 := L6.out.keep g7 HAP.out
      obtain ⟨A6', c6', e6', a6⟩ := l7.arg (HmM.dl_256 HT256.out)
      rw [HmM.dl_length] at e6' a6
      simp only [Value.slice.injEq, true_and] at e6'
      obtain ⟨rfl, rfl⟩ := e6'
      rw [← HLK.out] at a6 o7
      have o7' : Own 5 .u8 w7 w.heap.size v7 (HmM.chain key l (j + 1)) := o7
      obtain ⟨A7, c7, e7, _⟩ := o7'.any
      rw [HmM.chain_length, show 32 * (j + 1) = L + 32 by have := hL.out; omega] at e7
      subst e7
      exact ⟨⟨j + 1, L + 32, 32, A7, A6, c7, c6, rfl, rfl, by go_num, hid (by have := hL.out; omega), by omega, hid o7', hid a6, hid b7⟩, by simp [lenOf]; omega⟩
    · have t1 : decide (L < size) = false := decide_eq_false hlt
      have hsL : size ≤ L := by omega
      have hst : (HmM.chain key l j).take size = HmM.stretch key l size := HmM.stretch_any key l (by have := hL.out; omega)
      obtain ⟨As', cs', e9, a9⟩ := ho.out.arg (HmM.chain_256 key l j)
      rw [HmM.chain_length, show 32 * j = L from hL.out.symm] at e9 a9
      simp only [Value.slice.injEq, true_and] at e9
      obtain ⟨rfl, rfl⟩ := e9
      have hcs := a9.cap
      have hcs2 : (size : Int) ≤ (cs : Int) := by omega
      have hfin : Arg wr As (HmM.stretch key l size) size cs := by
        rw [← hst]
        exact ⟨by rw [List.length_take, a9.len]; omega, by omega, a9.max, fun y hy => a9.b256 y (List.mem_of_mem_take hy), fun e => by obtain ⟨h1, h2⟩ := a9.none e; exact ⟨by omega, h2⟩, a9.byt.take size⟩
      have HF := hid hfin
      clear hfin a9 hst ho ha
      go_wp2_with fail
      go_ret2
      exact ⟨As, cs, rfl, HF.out, hb.out⟩
end Go.Proofs.YtfgmgfniolmpkaaDoor
