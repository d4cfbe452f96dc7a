/-
  Contracts of the field's functions (gf) that other packages call, over this translation: each answers what the plain functions of GfMath tell, and leaves the world as it was.
-/
import Derived.Test.YteoccdcebgcdmaaRows
import Derived.Test.YteoccdcebgcdmaaGfMath
import Derived.Test.YteoccdcebgcdmaaMem
import Derived.WalkKit
import Derived.ProofKit
import Derived.OpenShut

namespace Go.Proofs.Yteoccdcebgcdmaa
open Go.ChangeShapes Go.WideShapes Go.ChangeAt Go.RowKit
theorem ret_int {k : IntKind} {a b : Int} (h : a = b) : Ending.returned (.int k a) = .returned (.int k b) := by rw [h]
theorem u8_bit (b k : Nat) (hb : b < 256) : bits BinOp.and IntKind.u8 ((b : Int) / 2 ^ k) 1 = ((b / 2 ^ k % 2 : Nat) : Int) := by
  have e : ((b : Int) / 2 ^ k) = ((b / 2 ^ k : Nat) : Int) := by simp
  have h := Nat.div_le_self b (2 ^ k)
  rw [e, show (1 : Int) = ((1 : Nat) : Int) from rfl, u8_and_nat _ _ (by omega) (by omega), nat_mask1]
theorem bit_yes {x : Int} {n : Nat} (e : x = (n : Int)) (h : n = 1) : (x == 1) = true := by rw [e, h]; rfl
theorem bit_no {x : Int} {n : Nat} (e : x = ((n % 2 : Nat) : Int)) (h : ¬ n % 2 = 1) : (x == 1) = false := by rw [e, beq_eq_false_iff_ne]; omega
theorem double_any (a : Nat) (ha : a < 256) (w : World) :
    Calls Try.prog 49 #[.int .u8 a] w fun e w' => e = .returned (.int .u8 (GfM.dbl a : Nat)) ∧ w = w' := by
  by_cases h : a < 128
  · have h1 : ((a : Int) / 128 == 1) = false := by rw [beq_eq_false_iff_ne]; omega
    have H2 := hid (GfM.dbl_lo h)
    go_enter Try.func49, Try.ntmps49
    go_wp2
    go_ret
    exact ⟨ret_int (by have := H2.out; omega), rfl⟩
  · have h1 : ((a : Int) / 128 == 1) = true := by rw [beq_iff_eq]; omega
    have H2 := hid (GfM.dbl_hi ha (by omega))
    go_enter Try.func49, Try.ntmps49
    go_wp2
    go_ret
    refine ⟨ret_int ?_, rfl⟩
    rw [← H2.out, u8_xor _ _ (by omega) (by omega) (by omega) (by omega)]
    simp
    rfl
theorem mul_any (a b : Nat) (ha : a < 256) (hb : b < 256) (w : World) :
    Calls Try.prog 46 #[.int .u8 a, .int .u8 b] w fun e w' => e = .returned (.int .u8 (GfM.mul a b : Nat)) ∧ w = w' := by
  go_enter Try.func46, Try.ntmps46
  go_wp2
  go_loop [0, 5, 7] (fun x s i => ∃ k x' s' : Nat, k ≤ 8 ∧ x' < 256 ∧ s' < 256 ∧ x = .int .u8 x' ∧ s = .int .u8 s' ∧ i = .int .i64 k ∧ Hid (GfM.mulGo (8 - k) x' (b / 2 ^ k) s' = GfM.mul a b)) (fun _ _ i => 8 - (intOf i).toNat)
  case atStart => exact ⟨0, a, 0, by omega, ha, by omega, rfl, rfl, rfl, hid (by simp [GfM.mul])⟩
  case round =>
    obtain ⟨k, x, s, hk, hx, hs, rfl, rfl, rfl, H⟩ := hrel
    by_cases hlt : k < 8
    · have hd := GfM.dbl_lt hx
      have hx2 := GfM.xor_lt hs hx
      have e : b / 2 ^ k / 2 = b / 2 ^ (k + 1) := by rw [Nat.div_div_eq_div_mul, Nat.pow_succ]
      have hm : 8 - k = (8 - (k + 1)) + 1 := by omega
      have H1 := H.out
      rw [hm, GfM.mulGo, e] at H1
      by_cases hb1 : b / 2 ^ k % 2 = 1
      · have ht := bit_yes (u8_bit b k hb) hb1
        rw [if_pos hb1] at H1
        have H2 := hid H1
        clear H1 e hm hb1 H
        go_wp2_with ((with_reducible refine (double_any _ hx _).mono ?_); rintro e w' ⟨rfl, rfl⟩)
        go_round
        case rel => exact ⟨k + 1, GfM.dbl x, s ^^^ x, by omega, hd, hx2, rfl, by rw [u8_xor_nat _ _ hs hx], by go_num, H2⟩
        case measure => simp [intOf]; omega
      · have ht := bit_no (u8_bit b k hb) hb1
        rw [if_neg hb1] at H1
        have H2 := hid H1
        clear H1 e hm hb1 H
        go_wp2_with ((with_reducible refine (double_any _ hx _).mono ?_); rintro e w' ⟨rfl, rfl⟩)
        go_round
        case rel => exact ⟨k + 1, GfM.dbl x, s, by omega, hd, hs, rfl, rfl, by go_num, H2⟩
        case measure => simp [intOf]; omega
    · go_wp2
      go_ret
      refine ⟨ret_int ?_, rfl⟩
      have h := H.out
      rw [show 8 - k = 0 from by omega, GfM.mulGo] at h
      rw [h]
theorem i64_and_nat (a b : Nat) (ha : a < 9223372036854775808) (hb : b < 9223372036854775808) : bits .and .i64 (a : Int) (b : Int) = ((a &&& b : Nat) : Int) := by
  have hx : a &&& b < 2 ^ 63 := Nat.and_lt_two_pow _ (by omega)
  have h1 : (BitVec.ofInt 64 (a : Int)).toNat = a := by rw [BitVec.ofInt_natCast, BitVec.toNat_ofNat]; exact Nat.mod_eq_of_lt (by omega)
  have h2 : (BitVec.ofInt 64 (b : Int)).toNat = b := by rw [BitVec.ofInt_natCast, BitVec.toNat_ofNat]; exact Nat.mod_eq_of_lt (by omega)
  show IntKind.i64.wrap ((BitVec.ofInt 64 (a : Int) &&& BitVec.ofInt 64 (b : Int)).toNat : Int) = _
  rw [BitVec.toNat_and, h1, h2]
  exact IntWalk.i64_in _ (by omega)
theorem i64_xor_nat (a b : Nat) (ha : a < 9223372036854775808) (hb : b < 9223372036854775808) : bits .xor .i64 (a : Int) (b : Int) = ((a ^^^ b : Nat) : Int) := by
  have hx : a ^^^ b < 2 ^ 63 := Nat.xor_lt_two_pow (by omega) (by omega)
  have h1 : (BitVec.ofInt 64 (a : Int)).toNat = a := by rw [BitVec.ofInt_natCast, BitVec.toNat_ofNat]; exact Nat.mod_eq_of_lt (by omega)
  have h2 : (BitVec.ofInt 64 (b : Int)).toNat = b := by rw [BitVec.ofInt_natCast, BitVec.toNat_ofNat]; exact Nat.mod_eq_of_lt (by omega)
  show IntKind.i64.wrap ((BitVec.ofInt 64 (a : Int) ^^^ BitVec.ofInt 64 (b : Int)).toNat : Int) = _
  rw [BitVec.toNat_xor, h1, h2]
  exact IntWalk.i64_in _ (by omega)
theorem i64_bit (b k : Nat) (hb : b < 9223372036854775808) : bits BinOp.and IntKind.i64 ((b : Int) / 2 ^ k) 1 = ((b / 2 ^ k % 2 : Nat) : Int) := by
  have e : ((b : Int) / 2 ^ k) = ((b / 2 ^ k : Nat) : Int) := by simp
  have h := Nat.div_le_self b (2 ^ k)
  rw [e, show (1 : Int) = ((1 : Nat) : Int) from rfl, i64_and_nat _ _ (by omega) (by omega), nat_mask1]
theorem raise_any (a n : Nat) (ha : a < 256) (hn : n < 256) (w : World) :
    Calls Try.prog 47 #[.int .u8 a, .int .i64 n] w fun e w' => e = .returned (.int .u8 (GfM.npow a n : Nat)) ∧ w = w' := by
  have H0 := hid (GfM.raise_eq ha hn)
  go_enter Try.func47, Try.ntmps47
  go_wp2
  go_loop [0, 5, 7] (fun x p i => ∃ k x' p' : Nat, k ≤ 8 ∧ x' < 256 ∧ p' < 256 ∧ x = .int .u8 x' ∧ p = .int .u8 p' ∧ i = .int .i64 k ∧ Hid (GfM.raiseGo (8 - k) x' (n / 2 ^ k) p' = GfM.npow a n)) (fun _ _ i => 8 - (intOf i).toNat)
  case atStart => exact ⟨0, a, 1, by omega, ha, by omega, rfl, rfl, rfl, hid (by have h := H0.out; simpa using h)⟩
  case round =>
    obtain ⟨k, x, p, hk, hx, hp, rfl, rfl, rfl, H⟩ := hrel
    by_cases hlt : k < 8
    · have hd := GfM.mul_lt (b := x) hx
      have hd2 := GfM.mul_lt (b := x) hp
      have e : n / 2 ^ k / 2 = n / 2 ^ (k + 1) := by rw [Nat.div_div_eq_div_mul, Nat.pow_succ]
      have hm : 8 - k = (8 - (k + 1)) + 1 := by omega
      have H1 := H.out
      rw [hm, GfM.raiseGo, e] at H1
      by_cases hb1 : n / 2 ^ k % 2 = 1
      · have ht := bit_yes (i64_bit n k (by omega)) hb1
        rw [if_pos hb1] at H1
        have H2 := hid H1
        clear H1 e hm hb1 H H0
        go_wp2_with fail
        refine (mul_any p x hp hx _).mono ?_
        rintro e w' ⟨rfl, rfl⟩
        go_wp2_with fail
        refine (mul_any x x hx hx _).mono ?_
        rintro e w' ⟨rfl, rfl⟩
        go_wp2_with fail
        go_round
        case rel => exact ⟨k + 1, GfM.mul x x, GfM.mul p x, by omega, hd, hd2, rfl, rfl, by go_num, H2⟩
        case measure => simp [intOf]; omega
      · have ht := bit_no (i64_bit n k (by omega)) hb1
        rw [if_neg hb1] at H1
        have H2 := hid H1
        clear H1 e hm hb1 H H0
        go_wp2_with fail
        refine (mul_any x x hx hx _).mono ?_
        rintro e w' ⟨rfl, rfl⟩
        go_wp2_with fail
        go_round
        case rel => exact ⟨k + 1, GfM.mul x x, p, by omega, hd, hp, rfl, rfl, by go_num, H2⟩
        case measure => simp [intOf]; omega
    · go_wp2
      go_ret
      refine ⟨ret_int ?_, rfl⟩
      have h := H.out
      rw [show 8 - k = 0 from by omega, GfM.raiseGo] at h
      rw [h]
theorem raise_2 (n : Nat) (hn : n < 256) (w : World) :
    Calls Try.prog 47 #[.int .u8 2, .int .i64 n] w fun e w' => e = .returned (.int .u8 (GfM.pw n : Nat)) ∧ w = w' := raise_any 2 n (by omega) hn w
theorem raise_254 (a : Nat) (ha : a < 256) (w : World) :
    Calls Try.prog 47 #[.int .u8 a, .int .i64 254] w fun e w' => e = .returned (.int .u8 (GfM.inv a : Nat)) ∧ w = w' := raise_any a 254 ha (by omega) w
/-- The power of any number: its rest by 255, from 0 on. -/
def pwI (n : Int) : Nat := GfM.pw (n % 255).toNat
theorem pwI_lt (n : Int) : pwI n < 256 := GfM.pw_lt _
theorem raise_2i (n : Int) (h0 : 0 ≤ n) (hn : n < 256) (w : World) :
    Calls Try.prog 47 #[.int .u8 2, .int .i64 n] w fun e w' => e = .returned (.int .u8 (GfM.pw n.toNat : Nat)) ∧ w = w' := by
  obtain ⟨m, rfl⟩ := Int.eq_ofNat_of_zero_le h0
  rw [Int.toNat_natCast]
  exact raise_2 m (by omega) w
theorem pow_any (n : Int) (w : World) :
    Calls Try.prog 40 #[.int .i64 n] w fun e w' => e = .returned (.int .u8 (pwI n : Nat)) ∧ w = w' := by
  have hlo : -255 < n.tmod 255 := Int.lt_tmod_of_pos n (b := 255) (by omega)
  have hhi : n.tmod 255 < 255 := Int.tmod_lt_of_pos n (by omega)
  by_cases h : n.tmod 255 < 0
  · have hfin : pwI n = GfM.pw (n.tmod 255 + 255).toNat := by
      unfold pwI; congr 2
      have := Int.tmod_eq_emod (a := n) (b := 255)
      split at this <;> omega
    have H := hid hfin
    clear hfin
    go_enter Try.func40, Try.ntmps40
    go_wp2_with fail
    refine (raise_2i _ (by omega) (by omega) _).mono ?_
    rintro e w' ⟨rfl, rfl⟩
    go_wp2_with fail
    go_ret
    exact ⟨ret_int (by rw [H.out]), rfl⟩
  · have hfin : pwI n = GfM.pw (n.tmod 255).toNat := by
      unfold pwI; congr 2
      have := Int.tmod_eq_emod (a := n) (b := 255)
      split at this <;> omega
    have H := hid hfin
    clear hfin
    go_enter Try.func40, Try.ntmps40
    go_wp2_with fail
    refine (raise_2i _ (by omega) (by omega) _).mono ?_
    rintro e w' ⟨rfl, rfl⟩
    go_wp2_with fail
    go_ret
    exact ⟨ret_int (by rw [H.out]), rfl⟩
theorem inv_zero (w : World) :
    Calls Try.prog 48 #[.int .u8 0] w fun e w' => e = .returned (.tuple #[.int .u8 0, .int .i64 2]) ∧ w = w' := by
  go_enter Try.func48, Try.ntmps48
  go_wp2_with fail
  go_ret2
  exact ⟨rfl, rfl⟩
theorem inv_any (a : Nat) (ha : a < 256) (h0 : a ≠ 0) (w : World) :
    Calls Try.prog 48 #[.int .u8 a] w fun e w' => e = .returned (.tuple #[.int .u8 (GfM.inv a : Nat), .int .i64 0]) ∧ w = w' := by
  have ht : ((a : Int) == 0) = false := by rw [beq_eq_false_iff_ne]; omega
  go_enter Try.func48, Try.ntmps48
  go_wp2_with fail
  refine (raise_254 _ ha _).mono ?_
  rintro e w' ⟨rfl, rfl⟩
  go_wp2_with fail
  go_ret2
  exact ⟨rfl, rfl⟩
theorem mul_lit (a b c : Nat) (ha : a < 256) (hb : b < 256) (h : GfM.mul a b = c) (w : World) :
    Calls Try.prog 46 #[.int .u8 a, .int .u8 b] w fun e w' => e = .returned (.int .u8 c) ∧ w = w' := by
  subst h; exact mul_any a b ha hb w
theorem pow_lit (n : Int) (c : Nat) (h : pwI n = c) (w : World) :
    Calls Try.prog 40 #[.int .i64 n] w fun e w' => e = .returned (.int .u8 c) ∧ w = w' := by
  subst h; exact pow_any n w
theorem u8_wf {a : Int} (h : (Lit.int .u8 a).wf = true) : ∃ n : Nat, a = n ∧ n < 256 := by
  simp [Lit.wf, IntKind.min, IntKind.max, IntKind.bits, IntKind.signed] at h
  exact ⟨a.toNat, by omega, by omega⟩
theorem zero_yes {n : Nat} (h : n = 0) : ((n : Int) == 0) = true := by rw [h]; rfl
theorem zero_no {n : Nat} (h : n ≠ 0) : ((n : Int) == 0) = false := by rw [beq_eq_false_iff_ne]; omega
theorem nat_yes {m n : Nat} (h : m = n) : ((m : Int) == (n : Int)) = true := by rw [h]; simp
theorem nat_no {m n : Nat} (h : m ≠ n) : ((m : Int) == (n : Int)) = false := by rw [beq_eq_false_iff_ne]; omega
theorem nat_ne_no {m n : Nat} (h : m = n) : ((m : Int) != (n : Int)) = false := by rw [h]; simp
theorem nat_ne_yes {m n : Nat} (h : m ≠ n) : ((m : Int) != (n : Int)) = true := by rw [bne_iff_ne]; omega
theorem i32_wf {a : Int} (h : (Lit.int .i32 a).wf = true) : -2147483648 ≤ a ∧ a ≤ 2147483647 := by
  simp [Lit.wf, IntKind.min, IntKind.max, IntKind.bits, IntKind.signed] at h
  omega
theorem i64_wf {a : Int} (h : (Lit.int .i64 a).wf = true) : -9223372036854775808 ≤ a ∧ a ≤ 9223372036854775807 := by
  simp [Lit.wf, IntKind.min, IntKind.max, IntKind.bits, IntKind.signed] at h
  omega
theorem i16_wf {a : Int} (h : (Lit.int .i16 a).wf = true) : -32768 ≤ a ∧ a ≤ 32767 := by
  simp [Lit.wf, IntKind.min, IntKind.max, IntKind.bits, IntKind.signed] at h
  omega
theorem pwI_nat (k : Nat) : pwI k = GfM.pw k := by
  unfold pwI; rw [← GfM.pw_mod k]; congr 1
theorem pwI_add (a b : Int) : pwI (a + b) = GfM.mul (pwI a) (pwI b) := by
  unfold pwI; rw [← GfM.pw_add, ← GfM.pw_mod ((a % 255).toNat + (b % 255).toNat)]; congr 1; omega
theorem pwI_turn (a : Int) : pwI (a + 255) = pwI a := by
  unfold pwI; congr 2; omega
end Go.Proofs.Yteoccdcebgcdmaa
