/-
  XTS in plain numbers (no text of the program).
-/
import Derived.Test.YtfnepbkgmopjcaaAesM
import Derived.Test.YtfnepbkgmopjcaaAesI
namespace Go.Proofs.Ytfnepbkgmopjcaa
namespace XtM
open AesM (Bt Q16)
/-- A number as bytes, the least first. -/
def tw (n : Nat) : Nat → Nat := fun i => n / 256 ^ i % 256
theorem tw_bt (n : Nat) : Bt (tw n) := fun _ => Nat.mod_lt _ (by omega)
/-- What comes in from below at byte i, when t is moved on by one bit. -/
def low (t : Nat → Nat) (i : Nat) : Nat := if i = 0 then t 15 / 128 * 135 else t (i - 1) / 128
def dbl (t : Nat → Nat) : Nat → Nat := fun i => (t i * 2 % 256) ^^^ low t i
theorem low_lt {t : Nat → Nat} (h : Bt t) (i : Nat) : low t i < 256 := by
  unfold low
  have h1 := h 15
  have h2 := h (i - 1)
  split <;> omega
theorem dbl_bt {t : Nat → Nat} (h : Bt t) : Bt (dbl t) := fun i => AesM.xor_lt (Nat.mod_lt _ (by omega)) (low_lt h i)
/-- The tweak of the k-th block. -/
def tk (t : Nat → Nat) : Nat → Nat → Nat
  | 0 => t
  | k + 1 => dbl (tk t k)
theorem tk_bt {t : Nat → Nat} (h : Bt t) : ∀ k, Bt (tk t k)
  | 0 => h
  | k + 1 => dbl_bt (tk_bt h k)
def part (s : Nat → Nat) (k : Nat) : Nat → Nat := fun i => s (16 * k + i)
theorem part_bt {s : Nat → Nat} (h : Bt s) (k : Nat) : Bt (part s k) := fun _ => h _
/-- One block, turned by E between two additions of t. -/
def blk (E : (Nat → Nat) → Nat → Nat) (t b : Nat → Nat) : Nat → Nat := AesM.add (E (AesM.add b t)) t
/-- A sector: each block turned. -/
def sect (E : (Nat → Nat) → Nat → Nat) (t s : Nat → Nat) : Nat → Nat := fun j => blk E (tk t (j / 16)) (part s (j / 16)) (j % 16)
theorem add_bt {a b : Nat → Nat} (ha : Bt a) (hb : Bt b) : Bt (AesM.add a b) := fun i => AesM.xor_lt (ha i) (hb i)
theorem blk_bt {E : (Nat → Nat) → Nat → Nat} (hE : ∀ f, Bt f → Bt (E f)) {t b : Nat → Nat} (ht : Bt t) (hb : Bt b) : Bt (blk E t b) := add_bt (hE _ (add_bt hb ht)) ht
theorem sect_bt {E : (Nat → Nat) → Nat → Nat} (hE : ∀ f, Bt f → Bt (E f)) {t s : Nat → Nat} (ht : Bt t) (hs : Bt s) : Bt (sect E t s) := fun _ => blk_bt hE (tk_bt ht _) (part_bt hs _) _
theorem add_add (a b : Nat → Nat) : AesM.add (AesM.add a b) b = a := funext fun i => by
  unfold AesM.add
  rw [Nat.xor_assoc, Nat.xor_self, Nat.xor_zero]
theorem add_q {a b c : Nat → Nat} (h : Q16 a b) : Q16 (AesM.add a c) (AesM.add b c) := fun i hi => by unfold AesM.add; rw [h i hi]
theorem blk_back {E D : (Nat → Nat) → Nat → Nat} (hD : ∀ f g, Q16 f g → Q16 (D f) (D g)) (hDE : ∀ f, Bt f → Q16 (D (E f)) f) {t b : Nat → Nat} (ht : Bt t) (hb : Bt b) : Q16 (blk D t (blk E t b)) b := by
  unfold blk
  rw [add_add]
  have h := add_q (c := t) (hDE _ (add_bt hb ht))
  rw [add_add] at h
  exact h
theorem part_sect {E : (Nat → Nat) → Nat → Nat} {t s : Nat → Nat} (k : Nat) : Q16 (part (sect E t s) k) (blk E (tk t k) (part s k)) := fun i hi => by
  unfold part sect
  rw [show (16 * k + i) / 16 = k by omega, show (16 * k + i) % 16 = i by omega]; rfl
theorem blk_q {E : (Nat → Nat) → Nat → Nat} (hE : ∀ f g, Q16 f g → Q16 (E f) (E g)) {t b c : Nat → Nat} (h : Q16 b c) : Q16 (blk E t b) (blk E t c) := add_q (hE _ _ (add_q h))
/-- What is turned is turned back. -/
theorem sect_back {E D : (Nat → Nat) → Nat → Nat} (hD : ∀ f g, Q16 f g → Q16 (D f) (D g)) (hDE : ∀ f, Bt f → Q16 (D (E f)) f) {t s : Nat → Nat} (ht : Bt t) (hs : Bt s) (j : Nat) : sect D t (sect E t s) j = s j := by
  show blk D (tk t (j / 16)) (part (sect E t s) (j / 16)) (j % 16) = s j
  have h := (blk_q hD (t := tk t (j / 16)) (part_sect (E := E) (t := t) (s := s) (j / 16))).trans (blk_back hD hDE (tk_bt ht _) (part_bt hs _))
  rw [h (j % 16) (Nat.mod_lt _ (by omega))]
  unfold part
  rw [show 16 * (j / 16) + j % 16 = j by omega]
theorem sect_congr {E : (Nat → Nat) → Nat → Nat} (hE : ∀ f g, Q16 f g → Q16 (E f) (E g)) {t s s' : Nat → Nat} {j : Nat} (h : ∀ i, i / 16 = j / 16 → s i = s' i) : sect E t s j = sect E t s' j := by
  have h1 : Q16 (part s (j / 16)) (part s' (j / 16)) := fun i hi => h _ (by omega)
  exact blk_q hE h1 _ (Nat.mod_lt _ (by omega))
/-! ### Double -/
theorem or_low : ∀ x, x < 256 → ∀ y, y < 2 → (x * 2 % 256) ||| y = (x * 2 % 256) ^^^ y := by decide +kernel
theorem odd_low : ∀ x, x < 256 → ∀ y, y < 2 → ((x * 2 % 256) ^^^ y) % 2 = y := by decide +kernel
theorem odd_top : ∀ x, x < 256 → ∀ y, y < 2 → ((x * 2 % 256) ^^^ (y * 135)) % 2 = y := by decide +kernel
theorem xor_cancel {a b c : Nat} (h : a ^^^ c = b ^^^ c) : a = b := by
  have := congrArg (· ^^^ c) h
  simpa [Nat.xor_assoc] using this
theorem dbl_inj {a b : Nat → Nat} (ha : Bt a) (hb : Bt b) (h : Q16 (dbl a) (dbl b)) : Q16 a b := by
  have hl : ∀ i, i < 16 → low a i = low b i ∧ a i * 2 % 256 = b i * 2 % 256 := fun i hi => by
    have h1 := h i hi
    have e : low a i = low b i := by
      have h2 := congrArg (· % 2) h1
      unfold dbl at h2
      have a1 := ha 15; have b1 := hb 15; have a2 := ha (i - 1); have b2 := hb (i - 1)
      unfold low at h2 ⊢
      by_cases e : i = 0
      · simp only [if_pos e] at h2 ⊢
        rw [odd_top _ (ha i) _ (by omega), odd_top _ (hb i) _ (by omega)] at h2
        rw [h2]
      · simp only [if_neg e] at h2 ⊢
        rw [odd_low _ (ha i) _ (by omega), odd_low _ (hb i) _ (by omega)] at h2
        exact h2
    refine ⟨e, ?_⟩
    unfold dbl at h1
    rw [e] at h1
    exact xor_cancel h1
  intro i hi
  obtain ⟨_, h1⟩ := hl i hi
  have h2 : a i / 128 = b i / 128 := by
    by_cases e : i = 15
    · have := (hl 0 (by omega)).1
      unfold low at this
      simp only [if_true] at this
      subst e
      omega
    · have := (hl (i + 1) (by omega)).1
      unfold low at this
      simp only [if_neg (show ¬ i + 1 = 0 by omega), Nat.add_sub_cancel] at this
      exact this
  have := ha i; have := hb i
  omega
theorem dbl_q {a b : Nat → Nat} (h : Q16 a b) : Q16 (dbl a) (dbl b) := fun i hi => by
  unfold dbl low
  rw [h i hi, h 15 (by omega), h (i - 1) (by omega)]
theorem xor_mul2 (x y : Nat) : (x ^^^ y) * 2 % 256 = (x * 2 % 256) ^^^ (y * 2 % 256) := by
  apply Nat.eq_of_testBit_eq
  intro i
  have e : ∀ z : Nat, z * 2 = z <<< 1 := fun z => by rw [Nat.shiftLeft_eq]
  rw [show (256 : Nat) = 2 ^ 8 from rfl]
  simp only [Nat.testBit_mod_two_pow, Nat.testBit_xor, e, Nat.testBit_shiftLeft]
  cases decide (i < 8) <;> cases decide (1 ≤ i) <;> simp
theorem xor_div (x y : Nat) : (x ^^^ y) / 128 = (x / 128) ^^^ (y / 128) := by
  apply Nat.eq_of_testBit_eq
  intro i
  rw [show (128 : Nat) = 2 ^ 7 from rfl]
  simp only [Nat.testBit_div_two_pow, Nat.testBit_xor]
theorem mul_top : ∀ x, x < 2 → ∀ y, y < 2 → (x ^^^ y) * 135 = (x * 135) ^^^ (y * 135) := by decide
/-- The double of a sum. -/
theorem dbl_add {a b : Nat → Nat} (ha : Bt a) (hb : Bt b) (i : Nat) : dbl (AesM.add a b) i = dbl a i ^^^ dbl b i := by
  have e : low (AesM.add a b) i = low a i ^^^ low b i := by
    have := ha 15; have := hb 15
    unfold low AesM.add
    by_cases e : i = 0
    · rw [if_pos e, if_pos e, if_pos e, xor_div, mul_top _ (by omega) _ (by omega)]
    · rw [if_neg e, if_neg e, if_neg e, xor_div]
  unfold dbl
  rw [e]
  unfold AesM.add
  rw [xor_mul2]
  simp only [Nat.xor_assoc]
  congr 1
  rw [← Nat.xor_assoc, Nat.xor_comm (b i * 2 % 256), Nat.xor_assoc]
end XtM
end Go.Proofs.Ytfnepbkgmopjcaa
