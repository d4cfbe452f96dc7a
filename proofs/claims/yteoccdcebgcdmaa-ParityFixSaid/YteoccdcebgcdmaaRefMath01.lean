/-
  The document's product (all products of bits, then what is from x^8 on taken off), in plain numbers, is the product of GfMath.
-/
import Derived.Test.YteoccdcebgcdmaaGfMath
namespace Go.Proofs.Yteoccdcebgcdmaa.GfM
def bit (a i : Nat) : Nat := a / 2 ^ i % 2
theorem bit_xor (a b i : Nat) : bit (a ^^^ b) i = bit a i ^^^ bit b i := by
  unfold bit; rw [Nat.xor_div_two_pow, odd_xor]
theorem bit_01 (a i : Nat) : bit a i = 0 ∨ bit a i = 1 := by unfold bit; omega
def innGo : Nat → Nat → Nat → Nat → Nat → Nat → Nat
  | 0, _, _, _, _, n => n
  | f+1, a, b, i, k, n => innGo f a b i (k + 1) (if bit a i = 1 ∧ bit b k = 1 then n ^^^ 2 ^ (i + k) else n)
def outGo : Nat → Nat → Nat → Nat → Nat → Nat
  | 0, _, _, _, n => n
  | f+1, a, b, i, n => outGo f a b (i + 1) (innGo 8 a b i 0 n)
def redGo : Nat → Nat → Nat
  | 0, n => n
  | f+1, n => redGo f (if bit n (8 + f) = 1 then n ^^^ 285 * 2 ^ f else n)
def refMul (a b : Nat) : Nat := redGo 7 (outGo 8 a b 0 0) % 256
theorem if_and_xor (x y z c n m : Nat) (hx : x = 0 ∨ x = 1) (hy : y = 0 ∨ y = 1) (hz : z = 0 ∨ z = 1) :
    (if x = 1 ∧ y ^^^ z = 1 then n ^^^ m ^^^ c else n ^^^ m) = (if x = 1 ∧ y = 1 then n ^^^ c else n) ^^^ (if x = 1 ∧ z = 1 then m ^^^ c else m) := by
  rcases hx with rfl | rfl <;> rcases hy with rfl | rfl <;> rcases hz with rfl | rfl <;> simp
  · ac_rfl
  · ac_rfl
  · rw [show (n ^^^ c) ^^^ (m ^^^ c) = (n ^^^ m) ^^^ (c ^^^ c) from by ac_rfl, Nat.xor_self, Nat.xor_zero]
theorem innGo_xb (f : Nat) : ∀ a b b' i k n m, innGo f a (b ^^^ b') i k (n ^^^ m) = innGo f a b i k n ^^^ innGo f a b' i k m := by
  induction f with
  | zero => intros; rfl
  | succ f ih =>
    intro a b b' i k n m
    simp only [innGo]
    rw [bit_xor, if_and_xor _ _ _ _ _ _ (bit_01 a i) (bit_01 b k) (bit_01 b' k), ih]
theorem innGo_xa (f : Nat) : ∀ a a' b i k n m, innGo f (a ^^^ a') b i k (n ^^^ m) = innGo f a b i k n ^^^ innGo f a' b i k m := by
  induction f with
  | zero => intros; rfl
  | succ f ih =>
    intro a a' b i k n m
    simp only [innGo]
    rw [bit_xor]
    have h := if_and_xor (bit b k) (bit a i) (bit a' i) (2 ^ (i + k)) n m (bit_01 b k) (bit_01 a i) (bit_01 a' i)
    have e1 : (bit a i ^^^ bit a' i = 1 ∧ bit b k = 1) = (bit b k = 1 ∧ bit a i ^^^ bit a' i = 1) := propext And.comm
    have e2 : (bit a i = 1 ∧ bit b k = 1) = (bit b k = 1 ∧ bit a i = 1) := propext And.comm
    have e3 : (bit a' i = 1 ∧ bit b k = 1) = (bit b k = 1 ∧ bit a' i = 1) := propext And.comm
    simp only [e1, e2, e3]
    rw [h, ih]
theorem outGo_xb (f : Nat) : ∀ a b b' i n m, outGo f a (b ^^^ b') i (n ^^^ m) = outGo f a b i n ^^^ outGo f a b' i m := by
  induction f with
  | zero => intros; rfl
  | succ f ih => intro a b b' i n m; simp only [outGo]; rw [innGo_xb, ih]
theorem outGo_xa (f : Nat) : ∀ a a' b i n m, outGo f (a ^^^ a') b i (n ^^^ m) = outGo f a b i n ^^^ outGo f a' b i m := by
  induction f with
  | zero => intros; rfl
  | succ f ih => intro a a' b i n m; simp only [outGo]; rw [innGo_xa, ih]
theorem if_xor (y z c n m : Nat) (hy : y = 0 ∨ y = 1) (hz : z = 0 ∨ z = 1) :
    (if y ^^^ z = 1 then n ^^^ m ^^^ c else n ^^^ m) = (if y = 1 then n ^^^ c else n) ^^^ (if z = 1 then m ^^^ c else m) := by
  have h := if_and_xor 1 y z c n m (Or.inr rfl) hy hz
  simpa using h
theorem redGo_x (f : Nat) : ∀ n m, redGo f (n ^^^ m) = redGo f n ^^^ redGo f m := by
  induction f with
  | zero => intros; rfl
  | succ f ih =>
    intro n m
    simp only [redGo]
    rw [bit_xor, if_xor _ _ _ _ _ (bit_01 n _) (bit_01 m _), ih]
theorem mod256_xor (a b : Nat) : (a ^^^ b) % 256 = a % 256 ^^^ b % 256 := Nat.xor_mod_two_pow (n := 8)
theorem refMul_xa (a a' b : Nat) : refMul (a ^^^ a') b = refMul a b ^^^ refMul a' b := by
  unfold refMul
  have h := outGo_xa 8 a a' b 0 0 0
  rw [Nat.xor_self] at h
  rw [h, redGo_x, mod256_xor]
theorem refMul_xb (a b b' : Nat) : refMul a (b ^^^ b') = refMul a b ^^^ refMul a b' := by
  unfold refMul
  have h := outGo_xb 8 a b b' 0 0 0
  rw [Nat.xor_self] at h
  rw [h, redGo_x, mod256_xor]
theorem refMul_zero_left (b : Nat) : refMul 0 b = 0 := by
  have h := refMul_xa 0 0 b; rwa [Nat.xor_self, Nat.xor_self] at h
theorem refMul_zero_right (a : Nat) : refMul a 0 = 0 := by
  have h := refMul_xb a 0 0; rwa [Nat.xor_self, Nat.xor_self] at h
theorem ref_bits : ∀ i, i < 8 → ∀ j, j < 8 → refMul (2 ^ i) (2 ^ j) = mul (2 ^ i) (2 ^ j) := by decide +kernel
theorem refMul_eq {a b : Nat} (ha : a < 256) (hb : b < 256) : refMul a b = mul a b := by
  refine span (fun a => refMul a b = mul a b) (by rw [refMul_zero_left, zero_mul]) (fun x y hx hy h1 h2 => ?_) (fun i hi => ?_) ha
  · rw [refMul_xa, mul_xor_left hx hy, h1, h2]
  · refine span (fun b => refMul (2 ^ i) b = mul (2 ^ i) b) (by rw [refMul_zero_right, mul_zero]) (fun x y hx hy h1 h2 => ?_) (fun j hj => ref_bits i hi j hj) hb
    rw [refMul_xb, mul_xor_right, h1, h2]
theorem innGo_lt (f : Nat) : ∀ a b i k n, i + k + f ≤ 16 → n < 32768 → i ≤ 7 → k + f ≤ 8 → innGo f a b i k n < 32768 := by
  induction f with
  | zero => intro a b i k n _ hn _ _; exact hn
  | succ f ih =>
    intro a b i k n h hn hi hk
    refine ih a b i (k + 1) _ (by omega) ?_ hi (by omega)
    split
    · have : 2 ^ (i + k) ≤ 2 ^ 14 := Nat.pow_le_pow_right (by omega) (by omega)
      exact Nat.xor_lt_two_pow (n := 15) hn (by omega)
    · exact hn
end Go.Proofs.Yteoccdcebgcdmaa.GfM
