/-
  Contracts of the document's bits, rotations and choices (casemateref03.bit, Cut, Rot, chosen, two) over this translation.
-/
import Derived.Test.YtnnhnlabkbjacaaDoorRefShaM
import Derived.Test.YtnnhnlabkbjacaaDoorShaRot
import Derived.Test.YtnnhnlabkbjacaaDoorMem
namespace Go.Proofs.YtnnhnlabkbjacaaDoor
open Go.ChangeShapes Go.WideShapes Go.ChangeAt Go.RowKit
theorem bit_any (x i : Nat) (hx : x < 4294967296) (hi : i < 32) (w : World) :
    Calls Tryd.prog 56 #[.int .u32 x, .int .i64 i] w fun e w' => e = .returned (.int .u32 (ShaM.bitN x i : Nat)) ∧ w = w' := by
  go_enter Tryd.func56, Tryd.ntmps56
  go_wp2
  go_ret
  refine ⟨ret_int ?_, rfl⟩
  unfold ShaM.bitN
  rw [Int.tmod_eq_emod_of_nonneg (Int.ediv_nonneg (by omega) (Int.le_of_lt (Int.pow_pos (by omega))))]
  simp
theorem rcut_any (x n : Nat) (hx : x < 4294967296) (hn : n < 32) (w : World) :
    Calls Tryd.prog 55 #[.int .u32 x, .int .i64 n] w fun e w' => e = .returned (.int .u32 (x / 2 ^ n : Nat)) ∧ w = w' := by
  obtain ⟨P, hP⟩ : ∃ P : Nat, P = 2 ^ n := ⟨_, rfl⟩
  have h1 : P < 4294967296 := by have h := Nat.pow_lt_pow_right (a := 2) (by decide) hn; omega
  have h2 : ¬ P = 0 := by rw [hP]; exact Nat.ne_of_gt (Nat.two_pow_pos n)
  have e0 : (2 : Int) ^ n = (P : Int) := by rw [hP]; simp
  have e : (2 : Int) ^ n % 4294967296 = (P : Int) := by rw [e0]; omega
  clear e0
  have hq : x / P < 4294967296 := Nat.lt_of_le_of_lt (Nat.div_le_self _ _) hx
  obtain ⟨q, hqq⟩ : ∃ q, q = x / P := ⟨_, rfl⟩
  have e2 : (x : Int) / (P : Int) % 4294967296 = (q : Int) := by
    rw [show (x : Int) / (P : Int) = ((x / P : Nat) : Int) by simp, ← hqq]; omega
  rw [← hP, ← hqq]
  have HP := hid hP
  have HQ := hid hqq
  clear hP hqq hq
  go_enter Tryd.func55, Tryd.ntmps55
  go_wp2
  go_ret
  exact ⟨ret_int e2, rfl⟩
theorem rrot_any (x n : Nat) (hx : x < 4294967296) (h0 : 0 < n) (hn : n < 32) (w : World) :
    Calls Tryd.prog 49 #[.int .u32 x, .int .i64 n] w fun e w' => e = .returned (.int .u32 (ShaM.rr x n : Nat)) ∧ w = w' := by
  obtain ⟨P, hP⟩ : ∃ P : Nat, P = 2 ^ n := ⟨_, rfl⟩
  obtain ⟨R, hR⟩ : ∃ R : Nat, R = ShaM.rr x n := ⟨_, rfl⟩
  have h1 : P < 4294967296 := by have h := Nat.pow_lt_pow_right (a := 2) (by decide) hn; omega
  have h2 : ¬ P = 0 := by rw [hP]; exact Nat.ne_of_gt (Nat.two_pow_pos n)
  have e0 : (2 : Int) ^ n = (P : Int) := by rw [hP]; simp
  have e : (2 : Int) ^ n % 4294967296 = (P : Int) := by rw [e0]; omega
  clear e0
  have hs := ShaM.rr_sum hx (Nat.le_of_lt hn)
  have hl := ShaM.rot_low_lt (x := x) (Nat.le_of_lt hn)
  have hr := ShaM.rr_lt hx n
  rw [← hP] at hs hl
  rw [← hR] at hs hr ⊢
  have HP := hid hP
  have HR := hid hR
  have HS := hid hs
  have HL := hid hl
  clear hP hR hs hl
  go_enter Tryd.func49, Tryd.ntmps49
  go_wp2
  go_ret
  refine ⟨ret_int ?_, rfl⟩
  have hs := HS.out
  have hl := HL.out
  have e0 : (2 : Int) ^ n = (P : Int) := by rw [HP.out]; simp
  have e3 : (x : Int) % (P : Int) * 2 ^ (32 - n) = ((x % P * 2 ^ (32 - n) : Nat) : Int) := by simp
  have e4 : (x : Int) / (P : Int) = ((x / P : Nat) : Int) := by simp
  rw [e3, e0, e4]
  generalize x % P * 2 ^ (32 - n) = y at *
  generalize x / P = z at *
  omega
set_option maxHeartbeats 400000 in
theorem chosen_any (e f g : Nat) (he : e < 4294967296) (hf : f < 4294967296) (hg : g < 4294967296) (w : World) :
    Calls Tryd.prog 50 #[.int .u32 e, .int .u32 f, .int .u32 g] w fun r w' => r = .returned (.int .u32 (ShaM.chN e f g : Nat)) ∧ w = w' := by
  have hc := ShaM.chN_lt (e := e) hf hg
  obtain ⟨c, hce⟩ : ∃ c, c = ShaM.chN e f g := ⟨_, rfl⟩
  rw [← hce] at hc ⊢
  have HC := hid hce
  clear hce
  go_enter Tryd.func50, Tryd.ntmps50
  go_wp2_with fail
  go_loop [7, 8] (fun u v => ∃ m o : Nat, m ≤ 32 ∧ v = .int .i64 ((m : Int) - 1) ∧ u = .int .u32 o ∧ o = c / 2 ^ m) (fun _ v => (intOf v + 1).toNat)
  case atStart => exact ⟨32, 0, by omega, rfl, rfl, by rw [Nat.div_eq_of_lt (by omega)]⟩
  case round =>
    obtain ⟨m, o, hm, rfl, rfl, ho⟩ := hrel
    cases m with
    | zero =>
      rw [Nat.pow_zero, Nat.div_one] at ho
      subst ho
      go_wp2_with fail
      go_ret
      exact ⟨rfl, rfl⟩
    | succ i =>
      have hi : i < 32 := by omega
      have e1 : ((i + 1 : Nat) : Int) - 1 = (i : Int) := by omega
      rw [e1]
      have hb := ShaM.chN_bit (e := e) (f := f) (g := g) he hi
      rw [← HC.out] at hb
      have hdv := ShaM.div_bit c i
      rw [← ho] at hdv
      have hle : c / 2 ^ i ≤ c := Nat.div_le_self _ _
      have hbe := ShaM.bitN_lt e i
      have hbf := ShaM.bitN_lt f i
      have hbg := ShaM.bitN_lt g i
      have HO := hid ho
      have HB := hid hb
      have HD := hid hdv
      clear ho hb hdv e1
      have hbc := ShaM.bitN_lt c i
      have ho31 : 2 * o + ShaM.bitN c i < 4294967296 := by have := HD.out; omega
      have ho30 : (o : Int) ≤ 2147483647 := by omega
      generalize hy : ShaM.bitN c i = y at *
      have HY := hid hy
      clear hy
      by_cases h1 : ShaM.bitN e i = 1
      · have t1 : ((ShaM.bitN e i : Nat) : Int) = 1 := by omega
        have hyf : ShaM.bitN f i = y := by have := HB.out; rw [if_pos h1] at this; exact this.symm
        have HT := hid t1
        have HYF := hid hyf
        clear h1 t1 hyf hbe
        go_wp2_with fail
        refine (bit_any g i hg hi w).mono ?_
        rintro r w' ⟨rfl, rfl⟩
        go_wp2_with fail
        refine (bit_any e i he hi w).mono ?_
        rintro r w' ⟨rfl, rfl⟩
        rw [HT.out]
        go_wp2_with fail
        refine (bit_any f i hf hi w).mono ?_
        rintro r w' ⟨rfl, rfl⟩
        rw [HYF.out]
        go_wp2_with fail
        go_round
        case rel => exact ⟨i, c / 2 ^ i, by omega, rfl, by rw [HD.out]; go_num, rfl⟩
        case measure => simp [intOf] <;> omega
      · have t1 : (((ShaM.bitN e i : Nat) : Int) == 1) = false := by rw [beq_eq_false_iff_ne]; omega
        have hyf : ShaM.bitN g i = y := by have := HB.out; rw [if_neg h1] at this; exact this.symm
        have HYF := hid hyf
        clear h1 hyf
        go_wp2_with fail
        refine (bit_any g i hg hi w).mono ?_
        rintro r w' ⟨rfl, rfl⟩
        rw [HYF.out]
        go_wp2_with fail
        refine (bit_any e i he hi w).mono ?_
        rintro r w' ⟨rfl, rfl⟩
        go_wp2_with fail
        go_round
        case rel => exact ⟨i, c / 2 ^ i, by omega, rfl, by rw [HD.out]; go_num, rfl⟩
        case measure => simp [intOf] <;> omega
set_option maxHeartbeats 400000 in
theorem two_any (a b d : Nat) (ha : a < 4294967296) (hb : b < 4294967296) (hd : d < 4294967296) (w : World) :
    Calls Tryd.prog 51 #[.int .u32 a, .int .u32 b, .int .u32 d] w fun r w' => r = .returned (.int .u32 (ShaM.twN a b d : Nat)) ∧ w = w' := by
  have hc := ShaM.twN_lt (a := a) hb hd
  obtain ⟨c, hce⟩ : ∃ c, c = ShaM.twN a b d := ⟨_, rfl⟩
  rw [← hce] at hc ⊢
  have HC := hid hce
  clear hce
  go_enter Tryd.func51, Tryd.ntmps51
  go_wp2_with fail
  go_loop [7, 8] (fun u v => ∃ m o : Nat, m ≤ 32 ∧ v = .int .i64 ((m : Int) - 1) ∧ u = .int .u32 o ∧ o = c / 2 ^ m) (fun _ v => (intOf v + 1).toNat)
  case atStart => exact ⟨32, 0, by omega, rfl, rfl, by rw [Nat.div_eq_of_lt (by omega)]⟩
  case round =>
    obtain ⟨m, o, hm, rfl, rfl, ho⟩ := hrel
    cases m with
    | zero =>
      rw [Nat.pow_zero, Nat.div_one] at ho
      subst ho
      go_wp2_with fail
      go_ret
      exact ⟨rfl, rfl⟩
    | succ i =>
      have hi : i < 32 := by omega
      have e1 : ((i + 1 : Nat) : Int) - 1 = (i : Int) := by omega
      rw [e1]
      have hbt := ShaM.twN_bit a b d i
      rw [← HC.out] at hbt
      have hdv := ShaM.div_bit c i
      rw [← ho] at hdv
      have hle : c / 2 ^ i ≤ c := Nat.div_le_self _ _
      have hba := ShaM.bitN_lt a i
      have hbb := ShaM.bitN_lt b i
      have hbd := ShaM.bitN_lt d i
      have HO := hid ho
      have HB := hid hbt
      have HD := hid hdv
      clear ho hbt hdv e1
      have hbc := ShaM.bitN_lt c i
      have ho31 : 2 * o + ShaM.bitN c i < 4294967296 := by have := HD.out; omega
      have ho30 : (o : Int) ≤ 2147483647 := by omega
      generalize hx : ShaM.bitN a i = x at *
      generalize hy : ShaM.bitN b i = y at *
      generalize hz : ShaM.bitN d i = z at *
      have HX := hid hx
      have HY := hid hy
      have HZ := hid hz
      clear hx hy hz
      go_wp2_with fail
      refine (bit_any a i ha hi w).mono ?_
      rintro r w' ⟨rfl, rfl⟩
      rw [HX.out]
      go_wp2_with fail
      refine (bit_any b i hb hi w).mono ?_
      rintro r w' ⟨rfl, rfl⟩
      rw [HY.out]
      go_wp2_with fail
      refine (bit_any d i hd hi w).mono ?_
      rintro r w' ⟨rfl, rfl⟩
      rw [HZ.out]
      go_wp2_with fail
      go_round
      case rel => exact ⟨i, c / 2 ^ i, by omega, rfl, by rw [HD.out, HB.out]; go_num, rfl⟩
      case measure => simp [intOf] <;> omega
end Go.Proofs.YtnnhnlabkbjacaaDoor
