/-
  Contracts of casemateref07's Mul, Inverse, bit, Box.
-/
import Derived.Test.YtodjfliakhhjaaaRAesM
import Derived.Test.YtodjfliakhhjaaaAesS
namespace Go.Proofs.Ytodjfliakhhjaaa
open Go.ChangeShapes Go.WideShapes Go.ChangeAt Go.RowKit
open AesM (Bt bitN)
namespace AesP
theorem u8_bit (b k : Nat) (hb : b < 256) : bits BinOp.and IntKind.u8 ((b : Int) / 2 ^ k) 1 = ((b / 2 ^ k % 2 : Nat) : Int) := by
  have h1 : ((b : Int) / 2 ^ k) = ((b / 2 ^ k : Nat) : Int) := by norm_cast
  rw [h1, show (1 : Int) = ((1 : Nat) : Int) from rfl, u8_and_nat _ _ (Nat.lt_of_le_of_lt (Nat.div_le_self _ _) hb) (by omega), Nat.and_one_is_mod]
theorem i64_and_nat (a b : Nat) (ha : a < 9223372036854775808) (hb : b < 9223372036854775808) : bits .and .i64 (a : Int) (b : Int) = ((a &&& b : Nat) : Int) := by
  have hx : a &&& b < 2 ^ 63 := Nat.and_lt_two_pow _ (by omega)
  have h1 : (BitVec.ofInt 64 (a : Int)).toNat = a := by rw [BitVec.ofInt_natCast, BitVec.toNat_ofNat]; exact Nat.mod_eq_of_lt (by omega)
  have h2 : (BitVec.ofInt 64 (b : Int)).toNat = b := by rw [BitVec.ofInt_natCast, BitVec.toNat_ofNat]; exact Nat.mod_eq_of_lt (by omega)
  show IntKind.i64.wrap ((BitVec.ofInt 64 (a : Int) &&& BitVec.ofInt 64 (b : Int)).toNat : Int) = _
  rw [BitVec.toNat_and, h1, h2]
  exact IntWalk.i64_in _ (by omega)
theorem i64_xor_nat (a b : Nat) (ha : a < 9223372036854775808) (hb : b < 9223372036854775808) : bits .xor .i64 (a : Int) (b : Int) = ((a ^^^ b : Nat) : Int) := by
  have hx : a ^^^ b < 2 ^ 63 := Nat.xor_lt_two_pow (by omega) (by omega)
  have h1 : (BitVec.ofInt 64 (a : Int)).toNat = a := by rw [BitVec.ofInt_natCast, BitVec.toNat_ofNat]; exact Nat.mod_eq_of_lt (by omega)
  have h2 : (BitVec.ofInt 64 (b : Int)).toNat = b := by rw [BitVec.ofInt_natCast, BitVec.toNat_ofNat]; exact Nat.mod_eq_of_lt (by omega)
  show IntKind.i64.wrap ((BitVec.ofInt 64 (a : Int) ^^^ BitVec.ofInt 64 (b : Int)).toNat : Int) = _
  rw [BitVec.toNat_xor, h1, h2]
  exact IntWalk.i64_in _ (by omega)
theorem i64_bit (b k : Nat) (hb : b < 9223372036854775808) : bits BinOp.and IntKind.i64 ((b : Int) / 2 ^ k) 1 = ((b / 2 ^ k % 2 : Nat) : Int) := by
  have h1 : ((b : Int) / 2 ^ k) = ((b / 2 ^ k : Nat) : Int) := by norm_cast
  rw [h1, show (1 : Int) = ((1 : Nat) : Int) from rfl, i64_and_nat _ _ (Nat.lt_of_le_of_lt (Nat.div_le_self _ _) hb) (by omega), Nat.and_one_is_mod]
theorem bit_yes {x : Int} {n : Nat} (e : x = (n : Int)) (h : n = 1) : (x == 1) = true := by rw [e, h]; rfl
theorem bit_no {x : Int} {n : Nat} (e : x = ((n % 2 : Nat) : Int)) (h : ¬ n % 2 = 1) : (x == 1) = false := by rw [e, beq_eq_false_iff_ne]; omega
theorem nat64 {x : Int} {n : Nat} (e : x = (n : Int)) (h : n < 131072) : wrap64 x = (n : Int) := by
  rw [e]; exact IntWalk.wrap64_in _ ⟨by omega, by omega⟩
theorem pow2_le {e d : Nat} (h : e ≤ d) : 2 ^ e ≤ 2 ^ d := Nat.pow_le_pow_right (by omega) h
theorem xor15 {m c : Nat} (hm : m < 32768) (hc : c < 32768) : m ^^^ c < 32768 := Nat.xor_lt_two_pow (n := 15) hm hc
theorem inn_step {a b i n r : Nat} (hi : i < 8) (H : AesM.inn (8 - i) a b i n = r) : AesM.inn (8 - (i + 1)) a b (i + 1) (if bitN b i = 1 then n ^^^ a * 2 ^ i else n) = r := by
  rw [show 8 - i = (8 - (i + 1)) + 1 from by omega, AesM.inn] at H; exact H
theorem red_step {i m r : Nat} (h7 : 7 < i) (H : AesM.red (i - 7) m = r) : AesM.red (i - 1 - 7) (if bitN m i = 1 then m ^^^ 283 * 2 ^ (i - 8) else m) = r := by
  rw [show i - 7 = (i - 8) + 1 from by omega, AesM.red] at H
  rw [show 8 + (i - 8) = i from by omega] at H
  rw [show i - 1 - 7 = i - 8 from by omega]; exact H
theorem shl64 (a e : Nat) (ha : a < 512) (h : e ≤ 7) : wrap64 ((a : Int) * 2 ^ e) = ((a * 2 ^ e : Nat) : Int) := by
  have h2 := pow2_le h
  have h3 : a * 2 ^ e ≤ 512 * 2 ^ 7 := Nat.mul_le_mul (by omega) h2
  exact nat64 (by norm_cast) (by omega)
theorem ret_int {k : IntKind} {a b : Int} (h : a = b) : Ending.returned (.int k a) = .returned (.int k b) := by rw [h]
theorem rmul_any (a b : Nat) (ha : a < 256) (hb : b < 256) (w : World) :
    Calls Try.prog 33 #[.int .u8 a, .int .u8 b] w fun e w' => e = .returned (.int .u8 (AesM.rm a b : Nat)) ∧ w = w' := by
  go_enter Try.func33, Try.ntmps33
  go_wp2_with fail
  go_loop [5, 6] (fun s i => ∃ i' n : Nat, i' ≤ 8 ∧ n < 32768 ∧ s = .int .i64 n ∧ i = .int .i64 i' ∧ Hid (AesM.inn (8 - i') a b i' n = AesM.inn 8 a b 0 0)) (fun _ i => 8 - (intOf i).toNat)
  case atStart => exact ⟨0, 0, by omega, by omega, rfl, rfl, rfl⟩
  case round =>
    obtain ⟨i, n, hi, hn, rfl, rfl, H⟩ := hrel
    by_cases hlt : i < 8
    · have H3 := hid (inn_step hlt H.out)
      clear H
      by_cases c1 : bitN b i = 1
      · have t1 := bit_yes (u8_bit b i hb) c1
        have H4 := hid (by have h := H3.out; rw [if_pos c1] at h; exact h)
        have h2 := pow2_le (show i ≤ 7 by omega)
        have h3 : a * 2 ^ i < 32768 := by
          have : a * 2 ^ i ≤ 255 * 2 ^ 7 := Nat.mul_le_mul (by omega) h2
          omega
        have hx := xor15 hn h3
        have P1 := hid (shl64 a i (by omega) (by omega))
        have P2 := hid (i64_xor_nat n (a * 2 ^ i) (by omega) (by omega))
        clear c1 H3 h2 h3
        go_wp2_with fail
        go_round
        case rel => exact ⟨i + 1, n ^^^ a * 2 ^ i, by omega, hx, by rw [P1.out, P2.out], by go_num, H4⟩
        case measure => simp [intOf]; omega
      · have t1 := bit_no (u8_bit b i hb) c1
        have H4 := hid (by have h := H3.out; rw [if_neg c1] at h; exact h)
        clear c1 H3
        go_wp2_with fail
        go_round
        case rel => exact ⟨i + 1, n, by omega, hn, rfl, by go_num, H4⟩
        case measure => simp [intOf]; omega
    · obtain rfl : i = 8 := by omega
      have H1 := hid (show n = AesM.inn 8 a b 0 0 from H.out)
      clear H
      go_wp2_with fail
      go_loop [5, 7] (fun s i => ∃ i' m : Nat, 7 ≤ i' ∧ i' ≤ 14 ∧ m < 32768 ∧ s = .int .i64 m ∧ i = .int .i64 i' ∧ Hid (AesM.red (i' - 7) m = AesM.red 7 n)) (fun _ i => (intOf i).toNat)
      case atStart => exact ⟨14, n, by omega, by omega, hn, rfl, rfl, rfl⟩
      case round =>
        obtain ⟨i, m, h7, h14, hm, rfl, rfl, H2⟩ := hrel
        by_cases h0 : i = 7
        · subst h0
          have HF := hid (show m % 256 = AesM.rm a b from by
            unfold AesM.rm; rw [← H1.out, ← H2.out]; rfl)
          go_wp2_with fail
          go_ret
          exact ⟨ret_int (by have h := HF.out; omega), rfl⟩
        · have H3 := hid (red_step (by omega) H2.out)
          by_cases c1 : bitN m i = 1
          · have t1 : (bits BinOp.and IntKind.i64 ((m : Int) / 2 ^ i) 1 == 1) = true := bit_yes (i64_bit m i (by omega)) c1
            have H4 := hid (by have h := H3.out; rw [if_pos c1] at h; exact h)
            have h2 := pow2_le (show i - 8 ≤ 6 by omega)
            have hx := xor15 hm (c := 283 * 2 ^ (i - 8)) (by omega)
            have P1 := hid (shl64 283 (i - 8) (by omega) (by omega))
            have P2 := hid (i64_xor_nat m (283 * 2 ^ (i - 8)) (by omega) (by omega))
            have h8 : 8 ≤ i := by omega
            clear H3 H2 c1 h0 h2
            go_wp2_with fail
            go_round
            case rel => exact ⟨i - 1, m ^^^ 283 * 2 ^ (i - 8), by omega, by omega, hx, by rw [show (283 : Int) = ((283 : Nat) : Int) from rfl, P1.out, P2.out], by go_num, H4⟩
            case measure => simp [intOf]; omega
          · have t1 : (bits BinOp.and IntKind.i64 ((m : Int) / 2 ^ i) 1 == 1) = false := bit_no (i64_bit m i (by omega)) c1
            have H4 := hid (by have h := H3.out; rw [if_neg c1] at h; exact h)
            have h8 : 8 ≤ i := by omega
            clear H3 H2 c1 h0
            go_wp2_with fail
            go_round
            case rel => exact ⟨i - 1, m, by omega, by omega, hm, rfl, by go_num, H4⟩
            case measure => simp [intOf]; omega
theorem rinv_any (a : Nat) (ha : a < 256) (w : World) :
    Calls Try.prog 36 #[.int .u8 a] w fun e w' => e = .returned (.int .u8 (AesM.rinv a : Nat)) ∧ w = w' := by
  go_enter Try.func36, Try.ntmps36
  go_wp2_with fail
  go_loop [0, 3, 4] (fun s x i => ∃ i' b y : Nat, i' ≤ 7 ∧ b < 256 ∧ y < 256 ∧ s = .int .u8 b ∧ x = .int .u8 y ∧ i = .int .i64 i' ∧ Hid (AesM.rinvGo (7 - i') b y = AesM.rinv a)) (fun _ _ i => 7 - (intOf i).toNat)
  case atStart => exact ⟨0, a, 1, by omega, ha, by omega, rfl, rfl, rfl, rfl⟩
  case round =>
    obtain ⟨i, b, y, hi, hb, hy, rfl, rfl, rfl, H⟩ := hrel
    by_cases hlt : i < 7
    · have H3 := hid (show AesM.rinvGo (7 - (i + 1)) (AesM.rm b b) (AesM.rm y (AesM.rm b b)) = AesM.rinv a by
        have h := H.out
        rw [show 7 - i = (7 - (i + 1)) + 1 by omega, AesM.rinvGo] at h
        exact h)
      have hbb := AesM.rm_lt b b
      have hyb := AesM.rm_lt y (AesM.rm b b)
      clear H
      go_wp2_with fail
      refine (rmul_any b b hb hb w).mono ?_
      rintro e w' ⟨rfl, rfl⟩
      go_wp2_with fail
      refine (rmul_any y (AesM.rm b b) hy hbb w).mono ?_
      rintro e w' ⟨rfl, rfl⟩
      go_wp2_with fail
      go_round
      case rel => exact ⟨i + 1, AesM.rm b b, AesM.rm y (AesM.rm b b), by omega, hbb, hyb, rfl, rfl, by go_num, H3⟩
      case measure => simp [intOf]; omega
    · obtain rfl : i = 7 := by omega
      have H1 : y = AesM.rinv a := H.out
      go_wp2_with fail
      go_ret
      exact ⟨rfl, rfl⟩
theorem rbit_any (b j : Nat) (hb : b < 256) (hj : j < 16) (w : World) :
    Calls Try.prog 37 #[.int .u8 b, .int .i64 j] w fun e w' => e = .returned (.int .u8 (bitN b (j % 8) : Nat)) ∧ w = w' := by
  go_enter Try.func37, Try.ntmps37
  go_wp2_with fail
  go_ret
  exact ⟨ret_int (u8_bit b (j % 8) hb), rfl⟩
theorem rbit_add (b i c : Nat) (hb : b < 256) (hj : i + c < 16) (w : World) :
    Calls Try.prog 37 #[.int .u8 b, .int .i64 ((i : Int) + (c : Int))] w fun e w' => e = .returned (.int .u8 (bitN b ((i + c) % 8) : Nat)) ∧ w = w' := by
  have h := rbit_any b (i + c) hb hj w
  rw [Int.natCast_add] at h
  exact h
set_option maxRecDepth 100000 in
theorem rbox_any (a : Nat) (ha : a < 256) (w : World) :
    Calls Try.prog 32 #[.int .u8 a] w fun e w' => e = .returned (.int .u8 (AesM.boxF a : Nat)) ∧ w = w' := by
  have HE := hid (AesM.rbox_eq a ha)
  have hr : AesM.rinv a < 256 := AesM.rinvGo_lt 7 a 1 (by omega)
  go_enter Try.func32, Try.ntmps32
  go_wp2_with fail
  refine (rinv_any a ha w).mono ?_
  rintro e w' ⟨rfl, rfl⟩
  generalize AesM.rinv a = b at HE hr ⊢
  go_wp2_with fail
  go_loop [4, 5] (fun o i => ∃ i' : Nat, i' ≤ 8 ∧ o = .int .u8 (AesM.bxGo b i' : Nat) ∧ i = .int .i64 i') (fun _ i => 8 - (intOf i).toNat)
  case atStart => exact ⟨0, by omega, rfl, rfl⟩
  case round =>
    obtain ⟨i, hi, rfl, rfl⟩ := hrel
    by_cases hlt : i < 8
    · have B0 := AesM.bitN_lt b (i % 8)
      have B4 := AesM.bitN_lt b ((i + 4) % 8)
      have B5 := AesM.bitN_lt b ((i + 5) % 8)
      have B6 := AesM.bitN_lt b ((i + 6) % 8)
      have B7 := AesM.bitN_lt b ((i + 7) % 8)
      have B9 := AesM.bitN_lt 99 (i % 8)
      have X1 := hid (u8_xor_nat _ _ B0 B4)
      have X2 := hid (u8_xor_nat _ _ (AesM.xor_lt B0 B4) B5)
      have X3 := hid (u8_xor_nat _ _ (AesM.xor_lt (AesM.xor_lt B0 B4) B5) B6)
      have X4 := hid (u8_xor_nat _ _ (AesM.xor_lt (AesM.xor_lt (AesM.xor_lt B0 B4) B5) B6) B7)
      have X5 := hid (u8_xor_nat _ _ (AesM.xor_lt (AesM.xor_lt (AesM.xor_lt (AesM.xor_lt B0 B4) B5) B6) B7) B9)
      have XB := hid (AesM.xb_lt b i)
      have OR := hid (show bits .or .u8 ((AesM.bxGo b i : Nat) : Int) ((AesM.xb b i : Int) * 2 ^ i % 256) = ((AesM.bxGo b (i + 1) : Nat) : Int) by
        have h := u8_or_nat (AesM.bxGo b i) (AesM.xb b i * 2 ^ i % 256) (AesM.bxGo_lt b i) (Nat.mod_lt _ (by omega))
        rw [show ((AesM.xb b i : Int) * 2 ^ i % 256) = ((AesM.xb b i * 2 ^ i % 256 : Nat) : Int) by norm_cast]
        exact h)
      clear B0 B4 B5 B6 B7 B9
      go_wp2_with fail
      refine (rbit_any b i hr (by omega) w).mono ?_
      rintro e w' ⟨rfl, rfl⟩
      go_wp2_with fail
      refine (rbit_add b i 4 hr (by omega) w).mono ?_
      rintro e w' ⟨rfl, rfl⟩
      have x := X1.out
      go_wp2_with fail
      clear x
      refine (rbit_add b i 5 hr (by omega) w).mono ?_
      rintro e w' ⟨rfl, rfl⟩
      have x := X2.out
      go_wp2_with fail
      clear x
      refine (rbit_add b i 6 hr (by omega) w).mono ?_
      rintro e w' ⟨rfl, rfl⟩
      have x := X3.out
      go_wp2_with fail
      clear x
      refine (rbit_add b i 7 hr (by omega) w).mono ?_
      rintro e w' ⟨rfl, rfl⟩
      have x := X4.out
      go_wp2_with fail
      clear x
      refine (rbit_any 99 i (by omega) (by omega) w).mono ?_
      rintro e w' ⟨rfl, rfl⟩
      have x := X5.out
      have y : bitN b (i % 8) ^^^ bitN b ((i + 4) % 8) ^^^ bitN b ((i + 5) % 8) ^^^ bitN b ((i + 6) % 8) ^^^ bitN b ((i + 7) % 8) ^^^ bitN 99 (i % 8) = AesM.xb b i := rfl
      rw [y] at x
      clear y
      have o := OR.out
      have tx := XB.out
      go_wp2_with fail
      go_round
      case rel => exact ⟨i + 1, by omega, by rw [← o], by go_num⟩
      case measure => simp [intOf]; omega
    · obtain rfl : i = 8 := by omega
      have h := HE.out
      go_wp2_with fail
      go_ret
      exact ⟨rfl, rfl⟩
end AesP
end Go.Proofs.Ytodjfliakhhjaaa
