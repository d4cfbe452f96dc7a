/-
  Contracts of the document's keys' blocks and tags (casemateref04.Block, Of, Parts, Bytes) over this translation.
-/
import Derived.Test.YtfgmgfniolmpkaaDoorRefSha7
import Derived.Test.YtfgmgfniolmpkaaDoorOwn2
import Derived.Test.YtfgmgfniolmpkaaDoorHTag
import Derived.Test.YtfgmgfniolmpkaaDoorElts
namespace Go.Proofs.YtfgmgfniolmpkaaDoor
open Go.ChangeShapes Go.WideShapes Go.ChangeAt Go.RowKit
attribute [local go_sem] Gives
theorem dl_take (f : Nat → Nat) {i : Nat} (h : i < 32) : (HmM.dl f).take (i + 1) = (HmM.dl f).take i ++ [f i] := by
  have hl : i < (HmM.dl f).length := by rw [HmM.dl_length]; exact h
  rw [List.take_succ_eq_append_getElem hl, ← nums_at hl, HmM.dl_get _ h]
theorem dl_full (f : Nat → Nat) : (HmM.dl f).take 32 = HmM.dl f := List.take_of_length_le (by rw [HmM.dl_length]; omega)
theorem pad_take (x : Nat) (k : List Nat) {i : Nat} (h : i < k.length) : (HmM.pad x k).take (i + 1) = (HmM.pad x k).take i ++ [k.getD i 0 ^^^ x] := by
  have hl : i < (HmM.pad x k).length := by rw [HmM.pad_length]; exact h
  rw [List.take_succ_eq_append_getElem hl, ← nums_at hl, HmM.pad_get _ _ h]
set_option maxHeartbeats 1000000 in
set_option maxRecDepth 100000 in
theorem rblock_any (K : Option Addr) (key : List Nat) (kn kcap : Nat) (hkl : key.length = kn) (hkn : kn ≤ 100000) (hk0 : K = none → kn = 0 ∧ kcap = 0) (hk256 : B256 key) (w : World) (hK : Byt w w.heap.size K key) :
    Calls Tryd.prog 21 #[.slice K kn kcap] w fun e w' => Fresh .u8 w w' e (HmM.blk key) := by
  have HK := hid hK
  have HKL := hid hkl
  have H256 := hid hk256
  have hcl := HmM.cutK_len key
  have hbl : HmM.blk key = HmM.cutK key ++ List.replicate (64 - (HmM.cutK key).length) 0 := rfl
  rw [hbl]
  clear hbl
  by_cases h64 : 64 < kn
  · have t0 : decide ((64 : Int) < (kn : Int)) = true := by simp; omega
    have hck : HmM.cutK key = HmM.dl (ShaM.sum key) := by unfold HmM.cutK; rw [if_pos (by rw [hkl]; exact h64)]
    rw [hck] at hcl ⊢
    obtain ⟨C, hC⟩ : ∃ C, C = HmM.dl (ShaM.sum key) := ⟨_, rfl⟩
    rw [← hC] at hcl ⊢
    have HC := hid hC
    clear hK hkl hk256 hck hC
    go_enter Tryd.func21, Tryd.ntmps21
    go_wp2_with fail
    refine (rsum_any K key kn kcap HKL.out hkn hk0 H256.out w HK.out).mono ?_
    rintro e w1 ⟨rfl, h1⟩
    have hz1 := h1.size
    go_upto_region 4 with ((with_reducible apply stt); rfl; rfl; exact Blk.top zlit_tag rfl)
    generalize hw2 : World.setRow _ _ _ = w2
    have c2 : Blk w2 w1.heap.size 25 (tag (ShaM.sum key)) := by rw [← hw2]; exact (Blk.top zlit_tag rfl).setRow_same _
    have b2 : Below w.heap.size w w2 := by rw [← hw2]; exact below_setRow (h1.alloc hz1 _) hz1 _
    clear hw2 h1 hz1
    obtain ⟨g, hg⟩ : ∃ g, g = w1.heap.size := ⟨_, rfl⟩
    rw [← hg] at c2 ⊢
    clear hg
    have C2 := hid c2
    have B2 := hid b2
    have hgl := c2.lt
    clear c2 b2
    go_wp2_with fail
    go_loopw [3, 5] (fun u v wr => ∃ (i : Nat) (vo : Value), i ≤ 32 ∧ v = .int .i64 i ∧ u = vo ∧ Hid (Own 5 .u8 wr w2.heap.size vo (C.take i)) ∧ Hid (Below w2.heap.size w2 wr)) (fun _ v _ => 32 - (intOf v).toNat)
    case atStart => exact ⟨0, _, by omega, rfl, rfl, hid Own.nil, hid (Below.refl _ _)⟩
    case round =>
      obtain ⟨i, vo, hi, rfl, rfl, ho, hb⟩ := hrel
      have hzw := hb.out.size
      have cr := C2.out.below hb.out hgl
      by_cases hlt : i < 32
      · have ti : (i : Int) < 32 := by omega
        have q1 := (cr.cell i).trans (get_tag hlt)
        have hst : C.take (i + 1) = C.take i ++ [ShaM.sum key i] := by rw [HC.out]; exact dl_take _ hlt
        have hlen : (C.take i).length = i := by rw [List.length_take, HC.out, HmM.dl_length]; omega
        have hx := HmM.sum_256 key i
        generalize ShaM.sum key i = x at *
        have HST := hid hst
        have HLEN := hid hlen
        clear hst hlen cr
        go_wp2_with (at_builtin; (with_reducible apply wappN eltB); rfl; rfl; exact ho.out.alloc _; exact nums_one (x := x) (B := wr.heap.size + 1) rfl (Nat.lt_succ_self _); rfl; (rw [HLEN.out]; omega); (simp; omega); intro v' w4 o4 g4)
        have b4 := below_grown (hb.out.alloc hzw (.cells #[.int .u8 (x : Nat)] 5)) g4 ho.out (Nat.le_refl _) (Nat.le_refl _)
        go_roundw
        case rel => exact ⟨i + 1, v', by omega, by go_num, rfl, hid (by rw [HST.out]; exact o4), hid b4⟩
        case measure => simp [intOf] <;> omega
      · obtain rfl : i = 32 := by omega
        have ho2 := ho.out
        rw [show C.take 32 = C from by rw [HC.out]; exact dl_full _] at ho2
        have hbb := B2.out.trans (hb.out.mono B2.out.size)
        have hl32 : C.length = 32 := by rw [HC.out, HmM.dl_length]
        have e0 : C ++ List.replicate 0 0 = C := by rw [List.replicate_zero, List.append_nil]
        rw [← e0] at ho2
        have O2 := hid ho2
        have BB := hid hbb
        have HL32 := hid hl32
        obtain ⟨A3, c3, e3, _, _, _⟩ := ho2.any
        rw [e0, hl32] at e3
        subst e3
        rw [show ((32 : Nat) : Int) = (32 : Int) from rfl]
        obtain ⟨w3, hw3⟩ : ∃ w3, w3 = wr := ⟨_, rfl⟩
        subst hw3
        have HZ23 : w2.heap.size ≤ w3.heap.size := hzw
        have O2' : Hid (Own 5 .u8 w3 w2.heap.size (.slice A3 32 c3) (C ++ List.replicate 0 0)) := O2
        clear ho2 hbb hl32 e0 ho cr C2
        go_wp2_with fail
        go_loopw [3] (fun u wr => ∃ (m N : Nat) (A : Option Addr) (cp : Nat), u = .slice A N cp ∧ Hid (N = 32 + m) ∧ N ≤ 64 ∧ w2.heap.size ≤ wr.heap.size ∧ Hid (Own 5 .u8 wr w2.heap.size u (C ++ List.replicate m 0)) ∧ Hid (Below w.heap.size w wr)) (fun u _ => 64 - lenOf u)
        case atStart => exact ⟨0, 32, A3, c3, rfl, hid rfl, by omega, HZ23, O2', BB⟩
        case round =>
          obtain ⟨m, N, A, cp, rfl, hN, hN64, hbz, ho, hb⟩ := hrel
          clear O2' BB
          have hlen : (C ++ List.replicate m 0).length = N := by rw [List.length_append, List.length_replicate, HL32.out]; exact hN.out.symm
          have HLEN := hid hlen
          clear hlen
          by_cases hlt : N < 64
          · have tN : (N : Int) < 64 := by omega
            go_wp2_with (at_builtin; (with_reducible apply wappN eltB); rfl; rfl; exact ho.out.alloc _; exact nums_one (x := 0) (B := wr.heap.size + 1) rfl (Nat.lt_succ_self _); rfl; (rw [HLEN.out]; omega); (simp; omega); intro v' w4 o4 g4)
            have b4 := below_grown (hb.out.alloc hb.out.size (.cells #[.int .u8 0] 5)) g4 ho.out B2.out.size (Nat.le_refl _)
            have hz4 := g4.size
            simp only [World.size_alloc] at hz4
            obtain ⟨A4, c4, e4, _, _, _⟩ := o4.any
            rw [List.length_append, HLEN.out, List.length_singleton] at e4
            subst e4
            go_roundw
            case rel => exact ⟨m + 1, N + 1, A4, c4, rfl, hid (by have := hN.out; omega), by omega, by omega, hid (by rw [List.replicate_succ', ← List.append_assoc]; exact o4), hid b4⟩
            case measure => simp [lenOf] <;> omega
          · have tN : decide ((N : Int) < 64) = false := by simp; omega
            have hm : m = 64 - C.length := by rw [HL32.out]; have := hN.out; omega
            have hfin := ho.out.fresh hb.out
            rw [hm] at hfin
            have HF := hid hfin
            clear hfin ho hm
            go_wp2_with fail
            go_ret
            exact HF.out
  · have t0 : decide ((64 : Int) < (kn : Int)) = false := by simp; omega
    have hck : HmM.cutK key = key := by unfold HmM.cutK; rw [if_neg (by rw [hkl]; exact h64)]
    rw [hck] at hcl ⊢
    obtain ⟨C, hC⟩ : ∃ C, C = key := ⟨_, rfl⟩
    rw [← hC] at hcl HK HKL ⊢
    clear hK hkl hk256 hck hC H256
    go_enter Tryd.func21, Tryd.ntmps21
    go_upto_region 9 with (at_builtin; (with_reducible apply wappN_any eltB); rfl; rfl; exact hk0; exact (Own.nil (e := 5) (k := .u8) (w := w) (B := w.heap.size)); exact HK.out.nums; exact HKL.out; (rw [List.length_nil]; omega); exact Nat.le_refl _; intro v1 w3 o3 g3)
    rw [List.nil_append] at o3
    have b3 := below_grown (Below.refl w.heap.size w) g3 (Own.nil (e := 5) (k := .u8) (w := w) (B := w.heap.size)) (Nat.le_refl _) (Nat.le_refl _)
    have e0 : C ++ List.replicate 0 0 = C := by rw [List.replicate_zero, List.append_nil]
    obtain ⟨A3, c3, e3, _, _, _⟩ := o3.any
    rw [HKL.out] at e3
    subst e3
    rw [← e0] at o3
    have O2' := hid o3
    have BB := hid b3
    clear o3 b3 g3 e0
    go_loopw [3] (fun u wr => ∃ (m N : Nat) (A : Option Addr) (cp : Nat), u = .slice A N cp ∧ Hid (N = kn + m) ∧ N ≤ 64 ∧ w.heap.size ≤ wr.heap.size ∧ Hid (Own 5 .u8 wr w.heap.size u (C ++ List.replicate m 0)) ∧ Hid (Below w.heap.size w wr)) (fun u _ => 64 - lenOf u)
    case atStart => exact ⟨0, kn, A3, c3, rfl, hid rfl, by omega, BB.out.size, O2', BB⟩
    case round =>
      obtain ⟨m, N, A, cp, rfl, hN, hN64, hbz, ho, hb⟩ := hrel
      clear O2' BB
      have hlen : (C ++ List.replicate m 0).length = N := by rw [List.length_append, List.length_replicate, HKL.out]; exact hN.out.symm
      have HLEN := hid hlen
      clear hlen
      by_cases hlt : N < 64
      · have tN : (N : Int) < 64 := by omega
        go_wp2_with (at_builtin; (with_reducible apply wappN eltB); rfl; rfl; exact ho.out.alloc _; exact nums_one (x := 0) (B := wr.heap.size + 1) rfl (Nat.lt_succ_self _); rfl; (rw [HLEN.out]; omega); (simp; omega); intro v' w4 o4 g4)
        have b4 := below_grown (hb.out.alloc hb.out.size (.cells #[.int .u8 0] 5)) g4 ho.out (Nat.le_refl _) (Nat.le_refl _)
        have hz4 := g4.size
        simp only [World.size_alloc] at hz4
        obtain ⟨A4, c4, e4, _, _, _⟩ := o4.any
        rw [List.length_append, HLEN.out, List.length_singleton] at e4
        subst e4
        go_roundw
        case rel => exact ⟨m + 1, N + 1, A4, c4, rfl, hid (by have := hN.out; omega), by omega, by omega, hid (by rw [List.replicate_succ', ← List.append_assoc]; exact o4), hid b4⟩
        case measure => simp [lenOf] <;> omega
      · have tN : decide ((N : Int) < 64) = false := by simp; omega
        have hm : m = 64 - C.length := by rw [HKL.out]; have := hN.out; omega
        have hfin := ho.out.fresh hb.out
        rw [hm] at hfin
        have HF := hid hfin
        clear hfin ho hm
        go_wp2_with fail
        go_ret
        exact HF.out
end Go.Proofs.YtfgmgfniolmpkaaDoor
