/-
  Contracts of the document's own functions of layer 1 (casemateref01) over this translation: each answers what the plain functions of GfMath tell.
-/
import Derived.Test.YteoccdcebgcdmaaGfField
import Derived.Test.YteoccdcebgcdmaaRefMath01
namespace Go.Proofs.Yteoccdcebgcdmaa
open Go.ChangeShapes Go.WideShapes Go.ChangeAt Go.RowKit
open GfM (bit)
theorem bit_yes8 {a i : Nat} (ha : a < 256) (h : bit a i = 1) : (bits BinOp.and IntKind.u8 ((a : Int) / 2 ^ i) 1 == 1) = true := bit_yes (u8_bit a i ha) h
theorem bit_no8 {a i : Nat} (ha : a < 256) (h : ¬ bit a i = 1) : (bits BinOp.and IntKind.u8 ((a : Int) / 2 ^ i) 1 == 1) = false := bit_no (u8_bit a i ha) h
theorem nat64 {x : Int} {n : Nat} (e : x = (n : Int)) (h : n < 32768) : wrap64 x = (n : Int) := by
  rw [e]; exact IntWalk.wrap64_in _ ⟨by omega, by omega⟩
theorem pow2_le {e d : Nat} (h : e ≤ d) : 2 ^ e ≤ 2 ^ d := Nat.pow_le_pow_right (by omega) h
theorem pow2_64 (e : Nat) (h : e ≤ 14) : wrap64 (2 ^ e) = ((2 ^ e : Nat) : Int) := by
  have h2 := pow2_le h
  exact nat64 (by simp) (by omega)
theorem pow285_64 (e : Nat) (h : e ≤ 6) : wrap64 (285 * 2 ^ e) = ((285 * 2 ^ e : Nat) : Int) := by
  have h2 := pow2_le h
  exact nat64 (by simp) (by omega)
theorem red_step {i m r : Nat} (h7 : 7 < i) (H : GfM.redGo (i - 7) m = r) : GfM.redGo (i - 1 - 7) (if bit m i = 1 then m ^^^ 285 * 2 ^ (i - 8) else m) = r := by
  rw [show i - 7 = (i - 8) + 1 from by omega, GfM.redGo] at H
  rw [show 8 + (i - 8) = i from by omega] at H
  rw [show i - 1 - 7 = i - 8 from by omega]; exact H
theorem xor15 {m c : Nat} (hm : m < 32768) (hc : c < 32768) : m ^^^ c < 32768 := Nat.xor_lt_two_pow (n := 15) hm hc
theorem inn_step {a b i k m n : Nat} (hk : k < 8) (H : GfM.innGo (8 - k) a b i k m = n) :
    GfM.innGo (8 - (k + 1)) a b i (k + 1) (if bit a i = 1 ∧ bit b k = 1 then m ^^^ 2 ^ (i + k) else m) = n := by
  rw [show 8 - k = (8 - (k + 1)) + 1 from by omega, GfM.innGo] at H; exact H
theorem rmul_any (a b : Nat) (ha : a < 256) (hb : b < 256) (w : World) :
    Calls Try.prog 41 #[.int .u8 a, .int .u8 b] w fun e w' => e = .returned (.int .u8 (GfM.mul a b : Nat)) ∧ w = w' := by
  have HR := hid (GfM.refMul_eq ha hb)
  go_enter Try.func41, Try.ntmps41
  go_wp2_with fail
  go_loop [5, 6] (fun s i => ∃ i' n : Nat, i' ≤ 8 ∧ n < 32768 ∧ s = .int .i64 n ∧ i = .int .i64 i' ∧ Hid (GfM.outGo (8 - i') a b i' n = GfM.outGo 8 a b 0 0)) (fun _ i => 8 - (intOf i).toNat)
  case atStart => exact ⟨0, 0, by omega, by omega, rfl, rfl, rfl⟩
  case round =>
    obtain ⟨i, n, hi, hn, rfl, rfl, H⟩ := hrel
    by_cases hlt : i < 8
    · go_wp2_with fail
      go_loop [5, 7] (fun s k => ∃ k' m : Nat, k' ≤ 8 ∧ m < 32768 ∧ s = .int .i64 m ∧ k = .int .i64 k' ∧ Hid (GfM.innGo (8 - k') a b i k' m = GfM.innGo 8 a b i 0 n)) (fun _ i => 8 - (intOf i).toNat)
      case atStart => exact ⟨0, n, by omega, hn, rfl, rfl, rfl⟩
      case round =>
        obtain ⟨k, m, hk, hm, rfl, rfl, H2⟩ := hrel
        by_cases hklt : k < 8
        · have H3 := hid (inn_step hklt H2.out)
          clear H2
          by_cases c1 : bit a i = 1
          · have t1 := bit_yes8 ha c1
            by_cases c2 : bit b k = 1
            · have t2 := bit_yes8 hb c2
              have H4 := hid (by have h := H3.out; rw [if_pos ⟨c1, c2⟩] at h; exact h)
              have P1 := hid (pow2_64 (i + k) (by omega))
              have hx := xor15 hm (c := 2 ^ (i + k)) (by have : 2 ^ (i + k) ≤ 2 ^ 14 := Nat.pow_le_pow_right (by omega) (by omega); omega)
              have P2 := hid (i64_xor_nat m (2 ^ (i + k)) (by omega) (by have : 2 ^ (i + k) ≤ 2 ^ 14 := Nat.pow_le_pow_right (by omega) (by omega); omega))
              clear c1 c2 H3
              go_wp2_with fail
              go_round
              case rel => exact ⟨k + 1, m ^^^ 2 ^ (i + k), by omega, hx, by rw [P1.out, P2.out], by go_num, H4⟩
              case measure => simp [intOf]; omega
            · have t2 := bit_no8 hb c2
              have H4 := hid (by have h := H3.out; rw [if_neg (fun e => c2 e.2)] at h; exact h)
              clear c1 c2 H3
              go_wp2_with fail
              go_round
              case rel => exact ⟨k + 1, m, by omega, hm, rfl, by go_num, H4⟩
              case measure => simp [intOf]; omega
          · have t1 := bit_no8 ha c1
            have H4 := hid (by have h := H3.out; rw [if_neg (fun e => c1 e.1)] at h; exact h)
            clear c1 H3
            go_wp2_with fail
            go_round
            case rel => exact ⟨k + 1, m, by omega, hm, rfl, by go_num, H4⟩
            case measure => simp [intOf]; omega
        · obtain rfl : k = 8 := by omega
          have H3 := hid (show GfM.outGo (8 - (i + 1)) a b (i + 1) m = GfM.outGo 8 a b 0 0 from by
            have h := H.out
            rw [show 8 - i = (8 - (i + 1)) + 1 from by omega, GfM.outGo, ← H2.out] at h; exact h)
          clear H H2
          go_wp2_with fail
          go_round
          case rel => exact ⟨i + 1, m, by omega, hm, rfl, by go_num, H3⟩
          case measure => simp [intOf]; omega
    · obtain rfl : i = 8 := by omega
      have H1 := hid (show n = GfM.outGo 8 a b 0 0 from H.out)
      clear H
      go_wp2_with fail
      go_loop [5, 8] (fun s i => ∃ i' m : Nat, 7 ≤ i' ∧ i' ≤ 14 ∧ m < 32768 ∧ s = .int .i64 m ∧ i = .int .i64 i' ∧ Hid (GfM.redGo (i' - 7) m = GfM.redGo 7 n)) (fun _ i => (intOf i).toNat)
      case atStart => exact ⟨14, n, by omega, by omega, hn, rfl, rfl, rfl⟩
      case round =>
        obtain ⟨i, m, h7, h14, hm, rfl, rfl, H2⟩ := hrel
        by_cases h0 : i = 7
        · subst h0
          have HF := hid (show m % 256 = GfM.mul a b from by
            rw [← HR.out]; unfold GfM.refMul; rw [← H1.out, ← H2.out]; rfl)
          go_wp2_with fail
          go_ret
          exact ⟨ret_int (by have h := HF.out; omega), rfl⟩
        · have H3 := hid (red_step (by omega) H2.out)
          by_cases c1 : bit m i = 1
          · have t1 : (bits BinOp.and IntKind.i64 ((m : Int) / 2 ^ i) 1 == 1) = true := bit_yes (i64_bit m i (by omega)) c1
            have H4 := hid (by have h := H3.out; rw [if_pos c1] at h; exact h)
            have h2 := pow2_le (show i - 8 ≤ 6 by omega)
            have hx := xor15 hm (c := 285 * 2 ^ (i - 8)) (by omega)
            have P1 := hid (pow285_64 (i - 8) (by omega))
            have P2 := hid (i64_xor_nat m (285 * 2 ^ (i - 8)) (by omega) (by omega))
            have h8 : 8 ≤ i := by omega
            clear H3 H2 c1 h0 h2
            go_wp2_with fail
            go_round
            case rel => exact ⟨i - 1, m ^^^ 285 * 2 ^ (i - 8), by omega, by omega, hx, by rw [P1.out, P2.out], by go_num, H4⟩
            case measure => simp [intOf]; omega
          · have t1 : (bits BinOp.and IntKind.i64 ((m : Int) / 2 ^ i) 1 == 1) = false := bit_no (i64_bit m i (by omega)) c1
            have H4 := hid (by have h := H3.out; rw [if_neg c1] at h; exact h)
            have h8 : 8 ≤ i := by omega
            clear H3 H2 c1 h0
            go_wp2_with fail
            go_round
            case rel => exact ⟨i - 1, m, by omega, by omega, hm, rfl, by go_num, H4⟩
            case measure => simp [intOf]; omega
theorem rpow_loop (x : Nat) : GfM.mul (GfM.pw x) 2 = GfM.pw (x + 1) := rfl
theorem rpow_any (n : Int) (w : World) :
    Calls Try.prog 42 #[.int .i64 n] w fun e w' => e = .returned (.int .u8 (pwI n : Nat)) ∧ w = w' := by
  have hlo : -255 < n.tmod 255 := Int.lt_tmod_of_pos n (b := 255) (by omega)
  have hhi : n.tmod 255 < 255 := Int.tmod_lt_of_pos n (by omega)
  have e : (n.tmod 255 + 255) % 255 = n % 255 := by
    have := Int.tmod_eq_emod (a := n) (b := 255)
    split at this <;> omega
  have h0 : 0 ≤ n % 255 := Int.emod_nonneg _ (by omega)
  obtain ⟨m, hm⟩ := Int.eq_ofNat_of_zero_le h0
  have hm2 : m < 255 := by omega
  have HF := hid (show GfM.pw m = pwI n from by unfold pwI; rw [hm, Int.toNat_natCast])
  have E := hid (e.trans hm)
  clear e hm h0
  go_enter Try.func42, Try.ntmps42
  go_wp2_with fail
  rw [E.out]
  go_loop [3, 4] (fun x i => ∃ k : Nat, k ≤ m ∧ x = .int .u8 (GfM.pw k : Nat) ∧ i = .int .i64 k) (fun _ i => 255 - (intOf i).toNat)
  case atStart => exact ⟨0, by omega, rfl, rfl⟩
  case round =>
    obtain ⟨k, hk, rfl, rfl⟩ := hrel
    have hp := GfM.pw_lt k
    by_cases hlt : k < m
    · go_wp2_with fail
      refine (rmul_any _ 2 hp (by omega) _).mono ?_
      rintro e w' ⟨rfl, rfl⟩
      rw [rpow_loop]
      go_wp2_with fail
      go_round
      case rel => exact ⟨k + 1, by omega, rfl, by go_num⟩
      case measure => simp [intOf]; omega
    · obtain rfl : k = m := by omega
      go_wp2_with fail
      go_ret
      exact ⟨ret_int (by rw [HF.out]), rfl⟩
end Go.Proofs.Yteoccdcebgcdmaa
