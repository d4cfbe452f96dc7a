/-
  Double, bit by bit, in plain numbers.
-/
import Derived.Test.YtkcfonlondlmeaaXtM
namespace Go.Proofs.Ytkcfonlondlmeaa
namespace XtM
open AesM (Bt Q16)
/-- The k-th bit of 16 bytes, the least one first. -/
def bit (t : Nat → Nat) (k : Nat) : Bool := decide (t (k / 8) / 2 ^ (k % 8) % 2 = 1)
def mv1 (t : Nat → Nat) (k : Nat) : Bool := if k = 0 then false else bit t (k - 1)
def top (k : Nat) : Bool := decide (k = 0 ∨ k = 1 ∨ k = 2 ∨ k = 7)
/-- The bits moved on. -/
def mvb (t : Nat → Nat) (k : Nat) : Bool := xor (mv1 t k) (bit t 127 && top k)
def sb (m : Nat → Bool) : Nat → Nat
  | 0 => 0
  | n + 1 => sb m n + (if m n then 2 ^ n else 0)
theorem sb_lt (m : Nat → Bool) : ∀ n, sb m n < 2 ^ n
  | 0 => by simp [sb]
  | n + 1 => by
    have := sb_lt m n
    rw [sb, Nat.pow_succ]
    split <;> omega
theorem sb_congr {m m' : Nat → Bool} : ∀ {n}, (∀ r, r < n → m r = m' r) → sb m n = sb m' n
  | 0, _ => rfl
  | n + 1, h => by rw [sb, sb, sb_congr fun r hr => h r (by omega), h n (by omega)]
/-- Byte j behind n bits. -/
def gone (m : Nat → Bool) (n j : Nat) : Nat := sb (fun r => m (8 * j + r)) (min (n - 8 * j) 8)
theorem gone_zero (m : Nat → Bool) (j : Nat) : gone m 0 j = 0 := by unfold gone; rw [show min (0 - 8 * j) 8 = 0 by omega]; rfl
theorem gone_other (m : Nat → Bool) {n j : Nat} (h : j ≠ n / 8) : gone m (n + 1) j = gone m n j := by
  unfold gone
  rw [show min (n + 1 - 8 * j) 8 = min (n - 8 * j) 8 by omega]
theorem gone_same (m : Nat → Bool) (n : Nat) : gone m (n + 1) (n / 8) = gone m n (n / 8) + (if m n then 2 ^ (n % 8) else 0) := by
  unfold gone
  rw [show min (n + 1 - 8 * (n / 8)) 8 = n % 8 + 1 by omega, show min (n - 8 * (n / 8)) 8 = n % 8 by omega, sb, show 8 * (n / 8) + n % 8 = n by omega]
theorem gone_lt (m : Nat → Bool) (n : Nat) : gone m n (n / 8) < 2 ^ (n % 8) := by
  unfold gone
  rw [show min (n - 8 * (n / 8)) 8 = n % 8 by omega]
  exact sb_lt _ _
theorem pow_lt (r : Nat) (h : r < 8) : 2 ^ r ≤ 128 := by
  match r, h with
  | 0, _ | 1, _ | 2, _ | 3, _ | 4, _ | 5, _ | 6, _ | 7, _ => decide
theorem gone_bt (m : Nat → Bool) (n j : Nat) : gone m n j < 256 := by
  unfold gone
  have h := sb_lt (fun r => m (8 * j + r)) (min (n - 8 * j) 8)
  have : (2 : Nat) ^ min (n - 8 * j) 8 ≤ 2 ^ 8 := Nat.pow_le_pow_right (by omega) (by omega)
  omega
theorem byte_low : ∀ x, x < 256 → ∀ y, y < 2 → sb (fun r => if r = 0 then decide (y = 1) else decide (x / 2 ^ (r - 1) % 2 = 1)) 8 = (x * 2 % 256) ^^^ y := by decide +kernel
theorem byte_top : ∀ x, x < 256 → ∀ y, y < 2 → sb (fun r => xor (if r = 0 then false else decide (x / 2 ^ (r - 1) % 2 = 1)) (decide (y = 1) && decide (r = 0 ∨ r = 1 ∨ r = 2 ∨ r = 7))) 8 = (x * 2 % 256) ^^^ (y * 135) := by decide +kernel
theorem gone_all {t : Nat → Nat} (ht : Bt t) {j : Nat} (hj : j < 16) : gone (mvb t) 128 j = dbl t j := by
  unfold gone
  rw [show min (128 - 8 * j) 8 = 8 by omega]
  unfold dbl low
  by_cases e : j = 0
  · subst e
    rw [if_pos rfl, ← byte_top _ (ht 0) _ (show t 15 / 128 < 2 by have := ht 15; omega)]
    refine sb_congr fun r hr => ?_
    unfold mvb mv1 top bit
    rw [show 8 * 0 + r = r by omega, show (127 : Nat) / 8 = 15 from rfl, show (2 : Nat) ^ (127 % 8) = 128 from rfl, Nat.mod_eq_of_lt (show t 15 / 128 < 2 by have := ht 15; omega)]
    by_cases h0 : r = 0
    · simp [h0]
    · rw [if_neg h0, if_neg h0, show (r - 1) / 8 = 0 by omega, show (r - 1) % 8 = r - 1 by omega]
  · rw [if_neg e, ← byte_low _ (ht j) _ (show t (j - 1) / 128 < 2 by have := ht (j - 1); omega)]
    refine sb_congr fun r hr => ?_
    unfold mvb mv1 top
    rw [show decide (8 * j + r = 0 ∨ 8 * j + r = 1 ∨ 8 * j + r = 2 ∨ 8 * j + r = 7) = false from decide_eq_false (by omega), Bool.and_false, Bool.xor_false, if_neg (by omega)]
    unfold bit
    by_cases h0 : r = 0
    · rw [if_pos h0, show (8 * j + r - 1) / 8 = j - 1 by omega, show (8 * j + r - 1) % 8 = 7 by omega, show (2 : Nat) ^ 7 = 128 from rfl, Nat.mod_eq_of_lt (show t (j - 1) / 128 < 2 by have := ht (j - 1); omega)]
    · rw [if_neg h0, show (8 * j + r - 1) / 8 = j by omega, show (8 * j + r - 1) % 8 = r - 1 by omega]
end XtM
end Go.Proofs.Ytkcfonlondlmeaa
