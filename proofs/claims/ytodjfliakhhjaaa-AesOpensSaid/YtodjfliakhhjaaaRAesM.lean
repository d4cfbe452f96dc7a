/-
  The document's own product, inverse and box, in plain numbers; what they are.
-/
import Derived.Test.YtodjfliakhhjaaaAesE
namespace Go.Proofs.Ytodjfliakhhjaaa
namespace AesM
def bitN (a i : Nat) : Nat := a / 2 ^ i % 2
/-- The sum of a's multiples. -/
def inn : Nat → Nat → Nat → Nat → Nat → Nat
  | 0, _, _, _, n => n
  | f + 1, a, b, i, n => inn f a b (i + 1) (if bitN b i = 1 then n ^^^ a * 2 ^ i else n)
def red : Nat → Nat → Nat
  | 0, n => n
  | f + 1, n => red f (if bitN n (8 + f) = 1 then n ^^^ 283 * 2 ^ f else n)
def rm (a b : Nat) : Nat := red 7 (inn 8 a b 0 0) % 256
theorem rm_lt (a b : Nat) : rm a b < 256 := Nat.mod_lt _ (by omega)
/-- f rounds of the inverse. -/
def rinvGo : Nat → Nat → Nat → Nat
  | 0, _, x => x
  | f + 1, a, x => rinvGo f (rm a a) (rm x (rm a a))
def rinv (a : Nat) : Nat := rinvGo 7 a 1
theorem rinvGo_lt : ∀ f a x, x < 256 → rinvGo f a x < 256
  | 0, _, _, h => h
  | f + 1, _, _, _ => rinvGo_lt f _ _ (rm_lt _ _)
def xb (b i : Nat) : Nat := bitN b (i % 8) ^^^ bitN b ((i + 4) % 8) ^^^ bitN b ((i + 5) % 8) ^^^ bitN b ((i + 6) % 8) ^^^ bitN b ((i + 7) % 8) ^^^ bitN 99 (i % 8)
def bxGo (b : Nat) : Nat → Nat
  | 0 => 0
  | i + 1 => bxGo b i ||| (xb b i * 2 ^ i % 256)
theorem bitN_lt (a i : Nat) : bitN a i < 256 := by unfold bitN; omega
theorem xb_lt (b i : Nat) : xb b i < 256 := xor_lt (xor_lt (xor_lt (xor_lt (xor_lt (bitN_lt _ _) (bitN_lt _ _)) (bitN_lt _ _)) (bitN_lt _ _)) (bitN_lt _ _)) (bitN_lt _ _)
theorem bxGo_lt (b : Nat) : ∀ i, bxGo b i < 256
  | 0 => Nat.zero_lt_succ _
  | i + 1 => Nat.or_lt_two_pow (n := 8) (bxGo_lt b i) (Nat.mod_lt _ (by omega))
theorem rbox_eq : ∀ a, a < 256 → bxGo (rinv a) 8 = boxF a := by
  rw [boxF_lit]; unfold ls; decide +kernel
theorem rm_one : ∀ a, a < 256 → rm a 1 = a := by decide +kernel
theorem rm_two : ∀ a, a < 256 → rm a 2 = dbl a := by decide +kernel
theorem rm_three : ∀ a, a < 256 → rm a 3 = dbl a ^^^ a := by decide +kernel
theorem rm_9 : ∀ a, a < 256 → rm a 9 = dbl (dbl (dbl a)) ^^^ a := by decide +kernel
theorem rm_11 : ∀ a, a < 256 → rm a 11 = dbl (dbl (dbl a)) ^^^ dbl a ^^^ a := by decide +kernel
theorem rm_13 : ∀ a, a < 256 → rm a 13 = dbl (dbl (dbl a)) ^^^ dbl (dbl a) ^^^ a := by decide +kernel
theorem rm_14 : ∀ a, a < 256 → rm a 14 = dbl (dbl (dbl a)) ^^^ dbl (dbl a) ^^^ dbl a := by decide +kernel
theorem rm_pow : ∀ i, i < 7 → rm (2 ^ i) 2 = 2 ^ (i + 1) := by decide +kernel
end AesM
end Go.Proofs.Ytodjfliakhhjaaa
