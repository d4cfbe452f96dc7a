/-
  The field of 256 elements, in plain numbers: doubling, products, powers, inverses, and their laws; nothing here speaks of a program.
-/
import Derived.LoadGo2
namespace Go.Proofs.Yteoccdcebgcdmaa.GfM
def dbl (a : Nat) : Nat := if a < 128 then 2 * a else (2 * a) ^^^ 285
def mulGo : Nat → Nat → Nat → Nat → Nat
  | 0, _, _, s => s
  | k+1, a, b, s => mulGo k (dbl a) (b / 2) (if b % 2 = 1 then s ^^^ a else s)
def mul (a b : Nat) : Nat := mulGo 8 a b 0
theorem xor_lt {a b : Nat} (ha : a < 256) (hb : b < 256) : a ^^^ b < 256 := Nat.xor_lt_two_pow (n := 8) ha hb
theorem dbl_lt {a : Nat} (h : a < 256) : dbl a < 256 := by
  have : ∀ a, a < 256 → dbl a < 256 := by decide +kernel
  exact this a h
theorem dbl_hi {a : Nat} (h : a < 256) (h1 : 128 ≤ a) : a * 2 % 256 ^^^ 29 = dbl a := by
  have : ∀ a, a < 256 → 128 ≤ a → a * 2 % 256 ^^^ 29 = dbl a := by decide +kernel
  exact this a h h1
theorem dbl_lo {a : Nat} (h1 : a < 128) : a * 2 = dbl a := by
  unfold dbl; rw [if_pos h1]; omega
theorem mulGo_lt (k : Nat) : ∀ {a b s : Nat}, a < 256 → s < 256 → mulGo k a b s < 256 := by
  induction k with
  | zero => intro a b s _ hs; exact hs
  | succ k ih => intro a b s ha hs; unfold mulGo; refine ih (dbl_lt ha) ?_; split; exact xor_lt hs ha; exact hs
theorem mul_lt {a b : Nat} (ha : a < 256) : mul a b < 256 := mulGo_lt 8 ha (by decide)

/-! ### Sums go through -/
theorem dbl_form {a : Nat} (h : a < 256) : dbl a = (2 * a) ^^^ (285 * (a / 128)) := by
  unfold dbl; split
  · rw [show a / 128 = 0 from by omega]; simp
  · rw [show a / 128 = 1 from by omega]
theorem div128_xor (a b : Nat) : (a ^^^ b) / 128 = a / 128 ^^^ b / 128 := Nat.xor_div_two_pow (n := 7)
theorem two_mul_xor (a b : Nat) : 2 * (a ^^^ b) = 2 * a ^^^ 2 * b := by
  have h := Nat.shiftLeft_xor_distrib (a := a) (b := b) (i := 1)
  simpa [Nat.shiftLeft_eq, Nat.mul_comm] using h
theorem xor4 (a b c d : Nat) : (a ^^^ b) ^^^ (c ^^^ d) = (a ^^^ c) ^^^ (b ^^^ d) := by
  rw [Nat.xor_assoc, Nat.xor_assoc, ← Nat.xor_assoc b, Nat.xor_comm b c, Nat.xor_assoc c]
theorem dbl_xor {a b : Nat} (ha : a < 256) (hb : b < 256) : dbl (a ^^^ b) = dbl a ^^^ dbl b := by
  rw [dbl_form ha, dbl_form hb, dbl_form (xor_lt ha hb), div128_xor, two_mul_xor, xor4]
  congr 1
  have h1 : a / 128 = 0 ∨ a / 128 = 1 := by omega
  have h2 : b / 128 = 0 ∨ b / 128 = 1 := by omega
  rcases h1 with h1 | h1 <;> rcases h2 with h2 | h2 <;> rw [h1, h2] <;> rfl
theorem mulGo_xa (k : Nat) : ∀ {a a' b s s' : Nat}, a < 256 → a' < 256 → mulGo k (a ^^^ a') b (s ^^^ s') = mulGo k a b s ^^^ mulGo k a' b s' := by
  induction k with
  | zero => intros; rfl
  | succ k ih =>
    intro a a' b s s' ha ha'
    simp only [mulGo]
    rw [dbl_xor ha ha']
    split
    · rw [xor4, ih (dbl_lt ha) (dbl_lt ha')]
    · rw [ih (dbl_lt ha) (dbl_lt ha')]
theorem odd_xor (b b' : Nat) : (b ^^^ b') % 2 = (b % 2) ^^^ (b' % 2) := Nat.xor_mod_two_pow (n := 1)
theorem half_xor (b b' : Nat) : (b ^^^ b') / 2 = b / 2 ^^^ b' / 2 := Nat.xor_div_two_pow (n := 1)
theorem mulGo_xb (k : Nat) : ∀ {a b b' s s' : Nat}, mulGo k a (b ^^^ b') (s ^^^ s') = mulGo k a b s ^^^ mulGo k a b' s' := by
  induction k with
  | zero => intros; rfl
  | succ k ih =>
    intro a b b' s s'
    simp only [mulGo]
    rw [half_xor, odd_xor, ← ih]
    congr 1
    have h1 : b % 2 = 0 ∨ b % 2 = 1 := by omega
    have h2 : b' % 2 = 0 ∨ b' % 2 = 1 := by omega
    rcases h1 with h1 | h1 <;> rcases h2 with h2 | h2 <;> rw [h1, h2] <;> simp
    · rw [Nat.xor_assoc]
    · ac_rfl
    · rw [xor4, Nat.xor_self, Nat.xor_zero]
theorem mul_xor_left {a a' b : Nat} (ha : a < 256) (ha' : a' < 256) : mul (a ^^^ a') b = mul a b ^^^ mul a' b := mulGo_xa 8 (s := 0) (s' := 0) ha ha'
theorem mul_xor_right {a b b' : Nat} : mul a (b ^^^ b') = mul a b ^^^ mul a b' := mulGo_xb 8 (s := 0) (s' := 0)

/-! ### What holds of 0 and of the eight bits holds of all -/
theorem eight_bits : ∀ a, a < 256 → a = (a / 1 % 2 * 1) ^^^ (a / 2 % 2 * 2) ^^^ (a / 4 % 2 * 4) ^^^ (a / 8 % 2 * 8) ^^^ (a / 16 % 2 * 16) ^^^ (a / 32 % 2 * 32) ^^^ (a / 64 % 2 * 64) ^^^ (a / 128 % 2 * 128) := by decide +kernel
theorem span (P : Nat → Prop) (h0 : P 0) (hx : ∀ x y, x < 256 → y < 256 → P x → P y → P (x ^^^ y)) (hb : ∀ i, i < 8 → P (2 ^ i)) {a : Nat} (ha : a < 256) : P a := by
  have one : ∀ i c, i < 8 → P (c % 2 * 2 ^ i) ∧ c % 2 * 2 ^ i < 256 := by
    intro i c hi
    have h2 : 2 ^ i ≤ 2 ^ 7 := Nat.pow_le_pow_right (by omega) (by omega)
    have h : c % 2 = 0 ∨ c % 2 = 1 := by omega
    rcases h with h | h <;> rw [h]
    · simpa using h0
    · rw [Nat.one_mul]; exact ⟨hb i hi, by omega⟩
  have e := eight_bits a ha
  rw [e]
  have k0 := one 0 (a / 1) (by omega)
  have k1 := one 1 (a / 2) (by omega)
  have k2 := one 2 (a / 4) (by omega)
  have k3 := one 3 (a / 8) (by omega)
  have k4 := one 4 (a / 16) (by omega)
  have k5 := one 5 (a / 32) (by omega)
  have k6 := one 6 (a / 64) (by omega)
  have k7 := one 7 (a / 128) (by omega)
  simp only [show (2 : Nat) ^ 0 = 1 from rfl, show (2 : Nat) ^ 1 = 2 from rfl, show (2 : Nat) ^ 2 = 4 from rfl, show (2 : Nat) ^ 3 = 8 from rfl, show (2 : Nat) ^ 4 = 16 from rfl, show (2 : Nat) ^ 5 = 32 from rfl, show (2 : Nat) ^ 6 = 64 from rfl, show (2 : Nat) ^ 7 = 128 from rfl] at k0 k1 k2 k3 k4 k5 k6 k7
  have join : ∀ x y, (P x ∧ x < 256) → (P y ∧ y < 256) → (P (x ^^^ y) ∧ x ^^^ y < 256) := fun x y h1 h2 => ⟨hx x y h1.2 h2.2 h1.1 h2.1, xor_lt h1.2 h2.2⟩
  exact (join _ _ (join _ _ (join _ _ (join _ _ (join _ _ (join _ _ (join _ _ k0 k1) k2) k3) k4) k5) k6) k7).1
theorem mulGo_zero (k : Nat) : ∀ {a s : Nat}, mulGo k a 0 s = s := by
  induction k with
  | zero => intros; rfl
  | succ k ih => intro a s; simp only [mulGo]; simpa using ih
theorem mul_zero (a : Nat) : mul a 0 = 0 := mulGo_zero 8
theorem zero_mul (b : Nat) : mul 0 b = 0 := by
  have h := mul_xor_left (a := 0) (a' := 0) (b := b) (by omega) (by omega)
  simpa using h
theorem mul_one (a : Nat) : mul a 1 = a := by
  unfold mul; simp only [mulGo]; simp
theorem mul_two (a : Nat) : mul a 2 = dbl a := by
  unfold mul; simp only [mulGo]; simp
theorem comm_bits : ∀ i, i < 8 → ∀ j, j < 8 → mul (2 ^ i) (2 ^ j) = mul (2 ^ j) (2 ^ i) := by decide +kernel
theorem mul_comm {a b : Nat} (ha : a < 256) (hb : b < 256) : mul a b = mul b a := by
  refine span (fun a => mul a b = mul b a) (by simp only [mul_zero, zero_mul]) (fun x y hx hy h1 h2 => ?_) (fun i hi => ?_) ha
  · show mul (x ^^^ y) b = mul b (x ^^^ y)
    rw [mul_xor_left hx hy, mul_xor_right, h1, h2]
  · have h2 : 2 ^ i ≤ 2 ^ 7 := Nat.pow_le_pow_right (by omega) (by omega)
    refine span (fun b => mul (2 ^ i) b = mul b (2 ^ i)) (by simp only [mul_zero, zero_mul]) (fun x y hx hy h1 h2 => ?_) (fun j hj => comm_bits i hi j hj) hb
    show mul (2 ^ i) (x ^^^ y) = mul (x ^^^ y) (2 ^ i)
    rw [mul_xor_left hx hy, mul_xor_right, h1, h2]
theorem assoc_bits : ∀ i, i < 8 → ∀ j, j < 8 → ∀ k, k < 8 → mul (mul (2 ^ i) (2 ^ j)) (2 ^ k) = mul (2 ^ i) (mul (2 ^ j) (2 ^ k)) := by decide +kernel
theorem mul_assoc {a b c : Nat} (ha : a < 256) (hb : b < 256) (hc : c < 256) : mul (mul a b) c = mul a (mul b c) := by
  have pw : ∀ i, i < 8 → 2 ^ i < 256 := fun i hi => by have h2 : 2 ^ i ≤ 2 ^ 7 := Nat.pow_le_pow_right (by omega) (by omega); omega
  refine span (fun a => mul (mul a b) c = mul a (mul b c)) (by simp only [zero_mul]) (fun x y hx hy h1 h2 => ?_) (fun i hi => ?_) ha
  · show mul (mul (x ^^^ y) b) c = mul (x ^^^ y) (mul b c)
    rw [mul_xor_left hx hy, mul_xor_left (mul_lt hx) (mul_lt hy), mul_xor_left hx hy, h1, h2]
  refine span (fun b => mul (mul (2 ^ i) b) c = mul (2 ^ i) (mul b c)) (by simp only [zero_mul, mul_zero]) (fun x y hx hy h1 h2 => ?_) (fun j hj => ?_) hb
  · show mul (mul (2 ^ i) (x ^^^ y)) c = mul (2 ^ i) (mul (x ^^^ y) c)
    rw [mul_xor_right, mul_xor_left (mul_lt (pw i hi)) (mul_lt (pw i hi)), mul_xor_left hx hy, mul_xor_right, h1, h2]
  refine span (fun c => mul (mul (2 ^ i) (2 ^ j)) c = mul (2 ^ i) (mul (2 ^ j) c)) (by simp only [mul_zero]) (fun x y hx hy h1 h2 => ?_) (fun k hk => assoc_bits i hi j hj k hk) hc
  show mul (mul (2 ^ i) (2 ^ j)) (x ^^^ y) = mul (2 ^ i) (mul (2 ^ j) (x ^^^ y))
  rw [mul_xor_right, mul_xor_right, mul_xor_right, h1, h2]
theorem one_mul {a : Nat} (h : a < 256) : mul 1 a = a := by rw [mul_comm (by omega) h, mul_one]

/-! ### Powers -/
def npow (a : Nat) : Nat → Nat
  | 0 => 1
  | n+1 => mul (npow a n) a
theorem npow_lt {a : Nat} (n : Nat) : npow a n < 256 := by
  induction n with
  | zero => exact (by omega : 1 < 256)
  | succ n ih => exact mul_lt ih
theorem npow_add {a : Nat} (ha : a < 256) (m n : Nat) : npow a (m + n) = mul (npow a m) (npow a n) := by
  induction n with
  | zero => exact (mul_one _).symm
  | succ n ih => show mul (npow a (m + n)) a = mul (npow a m) (mul (npow a n) a); rw [ih, mul_assoc (npow_lt m) (npow_lt n) ha]
theorem npow_mul {a : Nat} (ha : a < 256) (m n : Nat) : npow (npow a m) n = npow a (m * n) := by
  induction n with
  | zero => rfl
  | succ n ih => show mul (npow (npow a m) n) (npow a m) = npow a (m * (n + 1)); rw [ih, Nat.mul_succ, npow_add ha]
theorem npow_one_base (n : Nat) : npow 1 n = 1 := by
  induction n with
  | zero => rfl
  | succ n ih => show mul (npow 1 n) 1 = 1; rw [ih, mul_one]
theorem npow_zero_base (n : Nat) : npow 0 (n + 1) = 0 := by show mul (npow 0 n) 0 = 0; exact mul_zero _
def raiseGo : Nat → Nat → Nat → Nat → Nat
  | 0, _, _, p => p
  | k+1, a, n, p => raiseGo k (mul a a) (n / 2) (if n % 2 = 1 then mul p a else p)
theorem raiseGo_eq (k : Nat) : ∀ {a n p : Nat}, a < 256 → p < 256 → raiseGo k a n p = mul p (npow a (n % 2 ^ k)) := by
  induction k with
  | zero => intro a n p _ _; rw [Nat.pow_zero, Nat.mod_one]; exact (mul_one _).symm
  | succ k ih =>
    intro a n p ha hp
    have h1 : npow a 2 = mul a a := by show mul (mul 1 a) a = mul a a; rw [one_mul ha]
    have e : n % 2 ^ (k + 1) = n % 2 + 2 * (n / 2 % 2 ^ k) := by
      rw [Nat.pow_succ, Nat.mul_comm (2 ^ k) 2, Nat.mod_mul]
    have h2 : raiseGo k (mul a a) (n / 2) (if n % 2 = 1 then mul p a else p) = mul (if n % 2 = 1 then mul p a else p) (npow a (2 * (n / 2 % 2 ^ k))) := by
      rw [ih (mul_lt ha) (by split; exact mul_lt hp; exact hp), ← npow_mul ha, h1]
    show raiseGo k (mul a a) (n / 2) (if n % 2 = 1 then mul p a else p) = _
    rw [h2, e]
    have h3 : n % 2 = 0 ∨ n % 2 = 1 := by omega
    rcases h3 with h3 | h3 <;> rw [h3]
    · simp
    · rw [if_pos rfl, npow_add ha, mul_assoc hp ha (npow_lt _)]
      congr 2
      exact (one_mul ha).symm
theorem raise_eq {a n : Nat} (ha : a < 256) (hn : n < 256) : raiseGo 8 a n 1 = npow a n := by
  rw [raiseGo_eq 8 ha (by omega), one_mul (npow_lt _)]; congr 1; omega
def pw (n : Nat) : Nat := npow 2 n
theorem pw_lt (n : Nat) : pw n < 256 := npow_lt n
theorem pw_succ (n : Nat) : pw (n + 1) = dbl (pw n) := mul_two _
theorem pw_add (m n : Nat) : pw (m + n) = mul (pw m) (pw n) := npow_add (by omega) m n
theorem pw_255 : pw 255 = 1 := by decide +kernel
theorem pw_turn (n : Nat) : pw (n + 255) = pw n := by rw [pw_add, pw_255, mul_one]
theorem pw_turns (n k : Nat) : pw (n + 255 * k) = pw n := by
  induction k with
  | zero => rfl
  | succ k ih => rw [Nat.mul_succ, ← Nat.add_assoc, pw_turn, ih]
theorem pw_mod (n : Nat) : pw (n % 255) = pw n := by
  have h := pw_turns (n % 255) (n / 255); rw [Nat.mod_add_div] at h; exact h.symm

/-! ### The number of a power -/
def lgGo : Nat → Nat → Nat → Nat → Nat
  | 0, n, _, _ => n
  | k+1, n, x, a => if x = a then n else lgGo k (n + 1) (dbl x) a
def lg (a : Nat) : Nat := lgGo 255 0 1 a
theorem lg_pw : ∀ n, n < 255 → lg (pw n) = n := by decide +kernel
theorem pw_lg : ∀ a, a < 256 → a ≠ 0 → pw (lg a) = a ∧ lg a < 255 := by decide +kernel
theorem pw_inj {m n : Nat} (hm : m < 255) (hn : n < 255) (h : pw m = pw n) : m = n := by rw [← lg_pw m hm, h, lg_pw n hn]
theorem pw_pos (n : Nat) : pw n ≠ 0 := by
  have h : ∀ n, n < 255 → pw n ≠ 0 := by decide +kernel
  rw [← pw_mod]; exact h _ (Nat.mod_lt _ (by omega))

/-! ### Inverses -/
def inv (a : Nat) : Nat := npow a 254
theorem inv_lt (a : Nat) : inv a < 256 := npow_lt _
theorem mul_inv {a : Nat} (ha : a < 256) (h : a ≠ 0) : mul a (inv a) = 1 := by
  obtain ⟨h1, _⟩ := pw_lg a ha h
  have h2 : mul (inv a) a = npow a 255 := rfl
  rw [mul_comm ha (inv_lt a), h2, ← h1]
  unfold pw
  rw [npow_mul (by omega), Nat.mul_comm, ← npow_mul (by omega)]
  have h3 : npow 2 255 = 1 := pw_255
  rw [h3, npow_one_base]
theorem inv_mul {a : Nat} (ha : a < 256) (h : a ≠ 0) : mul (inv a) a = 1 := by rw [mul_comm (inv_lt a) ha, mul_inv ha h]
theorem inv_ne {a : Nat} (ha : a < 256) (h : a ≠ 0) : inv a ≠ 0 := by
  intro e; have h1 := mul_inv ha h; rw [e, mul_zero] at h1; exact absurd h1 (by decide)
theorem mul_cancel {a x y : Nat} (ha : a < 256) (h : a ≠ 0) (hx : x < 256) (hy : y < 256) (e : mul a x = mul a y) : x = y := by
  have h1 : mul (inv a) (mul a x) = mul (inv a) (mul a y) := by rw [e]
  rw [← mul_assoc (inv_lt a) ha hx, ← mul_assoc (inv_lt a) ha hy, inv_mul ha h, one_mul hx, one_mul hy] at h1
  exact h1
theorem mul_eq_zero {a b : Nat} (ha : a < 256) (hb : b < 256) : mul a b = 0 ↔ a = 0 ∨ b = 0 := by
  constructor
  · intro h
    by_cases h0 : a = 0
    · exact Or.inl h0
    · exact Or.inr (mul_cancel ha h0 hb (by omega) (by rw [h, mul_zero]))
  · rintro (rfl | rfl)
    · exact zero_mul _
    · exact mul_zero _
theorem inv_inv {a : Nat} (ha : a < 256) (h : a ≠ 0) : inv (inv a) = a := by
  refine mul_cancel (inv_lt a) (inv_ne ha h) (inv_lt _) ha ?_
  rw [mul_inv (inv_lt a) (inv_ne ha h), inv_mul ha h]
theorem div_mul {a b : Nat} (ha : a < 256) (hb : b < 256) (h : b ≠ 0) : mul (mul a (inv b)) b = a := by
  rw [mul_assoc ha (inv_lt b) hb, inv_mul hb h, mul_one]
theorem div_of {a b c : Nat} (hb : b < 256) (hc : c < 256) (h : b ≠ 0) (e : mul c b = a) : mul a (inv b) = c := by
  rw [← e, mul_assoc hc hb (inv_lt b), mul_inv hb h, mul_one]
theorem sq_xor {a b : Nat} (ha : a < 256) (hb : b < 256) : mul (a ^^^ b) (a ^^^ b) = mul a a ^^^ mul b b := by
  rw [mul_xor_right, mul_xor_left ha hb, mul_xor_left ha hb, mul_comm hb ha, Nat.xor_assoc, ← Nat.xor_assoc (mul a b), Nat.xor_self, Nat.zero_xor]
theorem xor_eq_zero {a b : Nat} (h : a ^^^ b = 0) : a = b := by
  have h1 : (a ^^^ b) ^^^ b = b := by rw [h, Nat.zero_xor]
  rwa [Nat.xor_assoc, Nat.xor_self, Nat.xor_zero] at h1
theorem sq_inj {a b : Nat} (ha : a < 256) (hb : b < 256) (h : mul a a = mul b b) : a = b := by
  have h1 := sq_xor ha hb
  rw [h, Nat.xor_self] at h1
  exact xor_eq_zero ((mul_eq_zero (xor_lt ha hb) (xor_lt ha hb)).1 h1 |>.elim id id)
theorem npow_256 {a : Nat} (ha : a < 256) : npow a 256 = a := by
  by_cases h : a = 0
  · rw [h, show 256 = 255 + 1 from rfl, npow_zero_base]
  · obtain ⟨e, _⟩ := pw_lg a ha h
    have h2 : npow (pw (lg a)) 256 = pw (lg a) := by
      unfold pw
      rw [npow_mul (by omega), show lg a * 256 = lg a + 255 * lg a from by omega]
      exact pw_turns _ _
    rwa [e] at h2
theorem npow_sq {a : Nat} (ha : a < 256) (k : Nat) : mul (npow a (2 ^ k)) (npow a (2 ^ k)) = npow a (2 ^ (k + 1)) := by
  rw [← npow_add ha, Nat.pow_succ, Nat.mul_two]
end Go.Proofs.Yteoccdcebgcdmaa.GfM
