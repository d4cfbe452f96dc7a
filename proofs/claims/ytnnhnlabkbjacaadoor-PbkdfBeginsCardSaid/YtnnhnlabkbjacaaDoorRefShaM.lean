/-
  What the document's own words of SHA-256 reckon, against the plain numbers of ShaM: rotations by sums, bits one by one, the roots of the primes.
-/
import Derived.Test.YtnnhnlabkbjacaaDoorShaM
namespace Go.Proofs.YtnnhnlabkbjacaaDoor.ShaM
theorem rr_sum {x n : Nat} (hx : x < 4294967296) (hn : n ≤ 32) : rr x n = x / 2 ^ n + x % 2 ^ n * 2 ^ (32 - n) := by
  unfold rr
  have h32 : (4294967296 : Nat) = 2 ^ n * 2 ^ (32 - n) := by rw [← Nat.pow_add, show n + (32 - n) = 32 by omega]
  have hlt : x / 2 ^ n < 2 ^ (32 - n) := by
    rw [Nat.div_lt_iff_lt_mul (Nat.two_pow_pos n), Nat.mul_comm, ← h32]; exact hx
  rw [h32, Nat.mul_mod_mul_right]
  have h := Nat.shiftLeft_add_eq_or_of_lt hlt (x % 2 ^ n)
  rw [Nat.shiftLeft_eq] at h
  rw [← h, Nat.add_comm]
theorem rot_low_lt {x n : Nat} (hn : n ≤ 32) : x % 2 ^ n * 2 ^ (32 - n) < 4294967296 := by
  have h32 : (4294967296 : Nat) = 2 ^ n * 2 ^ (32 - n) := by rw [← Nat.pow_add, show n + (32 - n) = 32 by omega]
  rw [h32]
  exact Nat.mul_lt_mul_of_pos_right (Nat.mod_lt _ (Nat.two_pow_pos n)) (Nat.two_pow_pos _)
def bitN (x i : Nat) : Nat := x / 2 ^ i % 2
theorem bitN_lt (x i : Nat) : bitN x i < 2 := Nat.mod_lt _ (by omega)
theorem bitN_test (x i : Nat) : bitN x i = (x.testBit i).toNat := by
  unfold bitN
  rw [Nat.testBit_eq_decide_div_mod_eq]
  have := Nat.mod_lt (x / 2 ^ i) (show 0 < 2 by omega)
  by_cases h : x / 2 ^ i % 2 = 1
  · rw [h]; rfl
  · have h0 : x / 2 ^ i % 2 = 0 := by omega
    rw [h0]; rfl
theorem div_bit (x i : Nat) : x / 2 ^ i = 2 * (x / 2 ^ (i + 1)) + bitN x i := by
  unfold bitN
  rw [Nat.pow_succ, ← Nat.div_div_eq_div_mul]
  omega
def chN (e f g : Nat) : Nat := (e &&& f) ^^^ (not32 e &&& g)
def twN (a b c : Nat) : Nat := (a &&& b) ^^^ (a &&& c) ^^^ (b &&& c)
theorem not32_lt (e : Nat) : not32 e < 4294967296 := by unfold not32; omega
theorem chN_lt {e f g : Nat} (hf : f < 4294967296) (hg : g < 4294967296) : chN e f g < 4294967296 :=
  Nat.xor_lt_two_pow (n := 32) (Nat.and_lt_two_pow _ hf) (Nat.and_lt_two_pow _ hg)
theorem twN_lt {a b c : Nat} (hb : b < 4294967296) (hc : c < 4294967296) : twN a b c < 4294967296 :=
  Nat.xor_lt_two_pow (n := 32) (Nat.xor_lt_two_pow (n := 32) (Nat.and_lt_two_pow _ hb) (Nat.and_lt_two_pow _ hc)) (Nat.and_lt_two_pow _ hc)
theorem chN_bit {e f g i : Nat} (he : e < 4294967296) (hi : i < 32) : bitN (chN e f g) i = if bitN e i = 1 then bitN f i else bitN g i := by
  have hn : (not32 e).testBit i = !e.testBit i := by
    unfold not32
    have := Nat.testBit_two_pow_sub_succ (x := e) (n := 32) he i
    rw [show (4294967295 : Nat) - e = 2 ^ 32 - (e + 1) by omega, this, decide_eq_true hi, Bool.true_and]
  rw [bitN_test, bitN_test, bitN_test, bitN_test]
  unfold chN
  rw [Nat.testBit_xor, Nat.testBit_and, Nat.testBit_and, hn]
  cases e.testBit i <;> cases f.testBit i <;> cases g.testBit i <;> rfl
theorem twN_bit (a b c i : Nat) : bitN (twN a b c) i = (bitN a i + bitN b i + bitN c i) / 2 := by
  rw [bitN_test, bitN_test, bitN_test, bitN_test]
  unfold twN
  rw [Nat.testBit_xor, Nat.testBit_xor, Nat.testBit_and, Nat.testBit_and, Nat.testBit_and]
  cases a.testBit i <;> cases b.testBit i <;> cases c.testBit i <;> rfl
theorem pOf_sum (s : S8) (k m : Nat) : pOf s (add k m) = add (add (add (add s.h (rr s.e 6 ^^^ rr s.e 11 ^^^ rr s.e 25)) (chN s.e s.f s.g)) k) m := by
  unfold pOf chN add; omega
theorem qOf_sum (s : S8) : qOf s = add (rr s.a 2 ^^^ rr s.a 13 ^^^ rr s.a 22) (twN s.a s.b s.c) := rfl
/-! ### The count at a tail's end, as it comes up from the last byte on -/
theorem count8_length (x : Nat) : (count8 x).length = 8 := by simp [count8]
theorem count8_drop (x : Nat) {i : Nat} (hi : i < 8) : (count8 x).drop (8 - (i + 1)) = (x / 256 ^ i % 256) :: (count8 x).drop (8 - i) := by
  have hl : 8 - (i + 1) < (count8 x).length := by rw [count8_length]; omega
  have h := List.drop_eq_getElem_cons hl
  have h2 := count8_get x (i := 8 - (i + 1)) (by omega)
  rw [List.getD_eq_getElem?_getD, List.getElem?_eq_getElem hl] at h2
  rw [h, show 8 - (i + 1) + 1 = 8 - i by omega, show (count8 x)[8 - (i + 1)]'hl = _ from h2, show 7 - (8 - (i + 1)) = i by omega, show (256 : Nat) = 2 ^ 8 by rfl, Nat.pow_mul]
/-! ### Primes and their roots -/
def mark (out : List Nat) (k : Nat) : Bool := out.any fun p => decide (p ≤ k) && k % p == 0
/-- What the sieve's rounds from n on still make of what was found. -/
def sieve (many : Nat) : Nat → Nat → List Nat → List Nat
  | 0, _, out => out
  | fuel + 1, n, out => if n < 400 ∧ out.length < many then (if mark out n then sieve many fuel (n + 1) out else sieve many fuel (n + 1) (out ++ [n])) else out
def primesN (many : Nat) : List Nat := sieve many 400 2 []
def hi64 (x y : Nat) : Nat := x * y / 18446744073709551616
def lo64 (x y : Nat) : Nat := x * y % 18446744073709551616
def w64 (x : Nat) : Nat := x % 18446744073709551616
def withinN (x p : Nat) (cube : Bool) : Bool :=
  if cube then
    (let high := w64 (w64 (hi64 x x * x) + hi64 (lo64 x x) x)
     let low := lo64 (lo64 x x) x
     let limit := w64 (p * 4294967296)
     decide (high < limit) || (high == limit && low == 0))
  else decide (hi64 x x < p) || (hi64 x x == p && lo64 x x == 0)
/-- The rounds from i - 1 down to 0. -/
def rootN (p : Nat) (cube : Bool) : Nat → Nat → Nat
  | 0, x => x
  | i + 1, x => rootN p cube i (if withinN (w64 (x + 2 ^ i)) p cube then w64 (x + 2 ^ i) else x)
def rootsN (many : Nat) (cube : Bool) : List Nat := (primesN many).map fun p => rootN p cube 38 0 % 4294967296
theorem primes_8 : primesN 8 = [2, 3, 5, 7, 11, 13, 17, 19] := by decide +kernel
theorem primes_64 : primesN 64 = [2, 3, 5, 7, 11, 13, 17, 19, 23, 29, 31, 37, 41, 43, 47, 53, 59, 61, 67, 71, 73, 79, 83, 89, 97, 101, 103, 107, 109, 113, 127, 131, 137, 139, 149, 151, 157, 163, 167, 173, 179, 181, 191, 193, 197, 199, 211, 223, 227, 229, 233, 239, 241, 251, 257, 263, 269, 271, 277, 281, 283, 293, 307, 311] := by decide +kernel
theorem roots_8 : rootsN 8 false = [seeds.a, seeds.b, seeds.c, seeds.d, seeds.e, seeds.f, seeds.g, seeds.h] := by unfold rootsN; rw [primes_8]; decide +kernel
theorem roots_64 : rootsN 64 true = salts := by unfold rootsN; rw [primes_64]; decide +kernel
end Go.Proofs.YtnnhnlabkbjacaaDoor.ShaM
