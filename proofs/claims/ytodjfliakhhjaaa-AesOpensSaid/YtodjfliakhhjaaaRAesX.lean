/-
  The document's mixing of a column, in plain numbers: it is the program's, and what undoes it.
-/
import Derived.Test.YtodjfliakhhjaaaRAesM
namespace Go.Proofs.Ytodjfliakhhjaaa
namespace AesM
def mxGo (f l : Nat → Nat) (c i : Nat) : Nat → Nat
  | 0 => 0
  | k + 1 => mxGo f l c i k ^^^ rm (f (4 * c + k)) (l ((k + 4 - i) % 4))
theorem mxGo_lt (f l : Nat → Nat) (c i : Nat) : ∀ k, mxGo f l c i k < 256
  | 0 => Nat.zero_lt_succ _
  | k + 1 => xor_lt (mxGo_lt f l c i k) (rm_lt _ _)
def mixD (f l : Nat → Nat) (n : Nat) : Nat := mxGo f l (n / 4) (n % 4) 4
theorem mixD_at (f l : Nat → Nat) (c : Nat) {i : Nat} (hi : i < 4) : mixD f l (4 * c + i) = mxGo f l c i 4 := by
  unfold mixD
  rw [show (4 * c + i) / 4 = c by omega, show (4 * c + i) % 4 = i by omega]
def lF : List Nat := [2, 3, 1, 1]
def lB : List Nat := [14, 11, 13, 9]
theorem mix_lF {f : Nat → Nat} (h : Bt f) : Q16 (mixD f (ls lF)) (mix f) := fun n hn => by
  obtain ⟨c, i, hi, rfl⟩ : ∃ c i, i < 4 ∧ n = 4 * c + i := ⟨n / 4, n % 4, by omega, by omega⟩
  rw [mixD_at f _ c hi]
  unfold mix
  rw [show (4 * c + i) / 4 * 4 = 4 * c by omega, show (4 * c + i) % 4 = i by omega]
  have h0 := h (4 * c)
  have h1 := h (4 * c + 1)
  have h2 := h (4 * c + 2)
  have h3 := h (4 * c + 3)
  match i, hi with
  | 0, _ =>
    show 0 ^^^ rm (f (4 * c + 0)) 2 ^^^ rm (f (4 * c + 1)) 3 ^^^ rm (f (4 * c + 2)) 1 ^^^ rm (f (4 * c + 3)) 1 = f (4 * c + 0) ^^^ (f (4 * c) ^^^ f (4 * c + 1) ^^^ f (4 * c + 2) ^^^ f (4 * c + 3)) ^^^ dbl (f (4 * c + 0) ^^^ f (4 * c + 1))
    rw [Nat.add_zero, rm_two _ h0, rm_three _ h1, rm_one _ h2, rm_one _ h3, dbl_xor h0 h1, Nat.zero_xor]
    generalize f (4 * c) = a
    generalize f (4 * c + 1) = b
    simp only [Nat.xor_assoc, Nat.xor_comm, xlc, xor_cancel, Nat.xor_self, Nat.xor_zero]
  | 1, _ =>
    show 0 ^^^ rm (f (4 * c + 0)) 1 ^^^ rm (f (4 * c + 1)) 2 ^^^ rm (f (4 * c + 2)) 3 ^^^ rm (f (4 * c + 3)) 1 = f (4 * c + 1) ^^^ (f (4 * c) ^^^ f (4 * c + 1) ^^^ f (4 * c + 2) ^^^ f (4 * c + 3)) ^^^ dbl (f (4 * c + 1) ^^^ f (4 * c + 2))
    rw [Nat.add_zero, rm_one _ h0, rm_two _ h1, rm_three _ h2, rm_one _ h3, dbl_xor h1 h2, Nat.zero_xor]
    simp only [Nat.xor_assoc, Nat.xor_comm, xlc, xor_cancel, Nat.xor_self, Nat.xor_zero]
  | 2, _ =>
    show 0 ^^^ rm (f (4 * c + 0)) 1 ^^^ rm (f (4 * c + 1)) 1 ^^^ rm (f (4 * c + 2)) 2 ^^^ rm (f (4 * c + 3)) 3 = f (4 * c + 2) ^^^ (f (4 * c) ^^^ f (4 * c + 1) ^^^ f (4 * c + 2) ^^^ f (4 * c + 3)) ^^^ dbl (f (4 * c + 2) ^^^ f (4 * c + 3))
    rw [Nat.add_zero, rm_one _ h0, rm_one _ h1, rm_two _ h2, rm_three _ h3, dbl_xor h2 h3, Nat.zero_xor]
    simp only [Nat.xor_assoc, Nat.xor_comm, xlc, xor_cancel, Nat.xor_self, Nat.xor_zero]
  | 3, _ =>
    show 0 ^^^ rm (f (4 * c + 0)) 3 ^^^ rm (f (4 * c + 1)) 1 ^^^ rm (f (4 * c + 2)) 1 ^^^ rm (f (4 * c + 3)) 2 = f (4 * c + 3) ^^^ (f (4 * c) ^^^ f (4 * c + 1) ^^^ f (4 * c + 2) ^^^ f (4 * c + 3)) ^^^ dbl (f (4 * c + 3) ^^^ f (4 * c + 0))
    rw [Nat.add_zero, rm_three _ h0, rm_one _ h1, rm_one _ h2, rm_two _ h3, dbl_xor h3 h0, Nat.zero_xor]
    simp only [Nat.xor_assoc, Nat.xor_comm, xlc, xor_cancel, Nat.xor_self, Nat.xor_zero, Nat.zero_xor]
/-- A column mixed three times. -/
theorem mixB_at {a b p q : Nat} (ha : a < 256) (hb : b < 256) (hp : p < 256) (hq : q < 256) :
    (a ^^^ dbl (dbl (a ^^^ p))) ^^^ (a ^^^ b ^^^ p ^^^ q) ^^^ dbl ((a ^^^ dbl (dbl (a ^^^ p))) ^^^ (b ^^^ dbl (dbl (b ^^^ q)))) =
      (dbl (dbl (dbl a)) ^^^ dbl (dbl a) ^^^ dbl a) ^^^ (dbl (dbl (dbl b)) ^^^ dbl b ^^^ b) ^^^ (dbl (dbl (dbl p)) ^^^ dbl (dbl p) ^^^ p) ^^^ (dbl (dbl (dbl q)) ^^^ q) := by
  have da := dbl_lt ha
  have db := dbl_lt hb
  have dp := dbl_lt hp
  have dq := dbl_lt hq
  have dda := dbl_lt da
  have ddb := dbl_lt db
  have ddp := dbl_lt dp
  have ddq := dbl_lt dq
  rw [dbl_xor ha hp, dbl_xor hb hq, dbl_xor da dp, dbl_xor db dq, dbl_xor (xor_lt ha (xor_lt dda ddp)) (xor_lt hb (xor_lt ddb ddq)), dbl_xor ha (xor_lt dda ddp), dbl_xor hb (xor_lt ddb ddq), dbl_xor dda ddp, dbl_xor ddb ddq]
  generalize dbl (dbl (dbl a)) = a3
  generalize dbl (dbl (dbl b)) = b3
  generalize dbl (dbl (dbl p)) = p3
  generalize dbl (dbl (dbl q)) = q3
  generalize dbl (dbl a) = a2
  generalize dbl (dbl p) = p2
  generalize dbl a = a1
  generalize dbl b = b1
  simp only [Nat.xor_assoc, Nat.xor_comm, xlc, xor_cancel, Nat.xor_self, Nat.xor_zero]
theorem mix_lB {f : Nat → Nat} (h : Bt f) : Q16 (mixD f (ls lB)) (mixB f) := fun n hn => by
  obtain ⟨c, i, hi, rfl⟩ : ∃ c i, i < 4 ∧ n = 4 * c + i := ⟨n / 4, n % 4, by omega, by omega⟩
  rw [mixD_at f _ c hi]
  have hq : ∀ j, j < 4 → mix (mix f) (4 * c + j) = f (4 * c + j) ^^^ dbl (dbl (f (4 * c + j) ^^^ f (4 * c + (j + 2) % 4))) := fun j hj => mix_two h hj
  have e0 := hq 0 (by omega)
  have e1 := hq 1 (by omega)
  have e2 := hq 2 (by omega)
  have e3 := hq 3 (by omega)
  simp only [Nat.reduceAdd, Nat.reduceMod, Nat.add_zero] at e0 e1 e2 e3
  have h0 := h (4 * c)
  have h1 := h (4 * c + 1)
  have h2 := h (4 * c + 2)
  have h3 := h (4 * c + 3)
  have sum : mix (mix f) (4 * c) ^^^ mix (mix f) (4 * c + 1) ^^^ mix (mix f) (4 * c + 2) ^^^ mix (mix f) (4 * c + 3) = f (4 * c) ^^^ f (4 * c + 1) ^^^ f (4 * c + 2) ^^^ f (4 * c + 3) := by
    rw [e0, e1, e2, e3, Nat.xor_comm (f (4 * c + 2)) (f (4 * c)), Nat.xor_comm (f (4 * c + 3)) (f (4 * c + 1))]
    generalize dbl (dbl (f (4 * c) ^^^ f (4 * c + 2))) = x
    generalize dbl (dbl (f (4 * c + 1) ^^^ f (4 * c + 3))) = y
    simp only [Nat.xor_assoc, Nat.xor_comm, xlc, xor_cancel, Nat.xor_self, Nat.xor_zero]
  have top : ∀ j, j < 4 → mixB f (4 * c + j) = mix (mix f) (4 * c + j) ^^^ (f (4 * c) ^^^ f (4 * c + 1) ^^^ f (4 * c + 2) ^^^ f (4 * c + 3)) ^^^ dbl (mix (mix f) (4 * c + j) ^^^ mix (mix f) (4 * c + (j + 1) % 4)) := fun j hj => by
    rw [← sum]
    show mix (mix (mix f)) (4 * c + j) = _
    generalize mix (mix f) = g
    unfold mix
    rw [show (4 * c + j) / 4 * 4 = 4 * c by omega, show (4 * c + j) % 4 = j by omega]
  rw [top i hi]
  match i, hi with
  | 0, _ =>
    show 0 ^^^ rm (f (4 * c + 0)) 14 ^^^ rm (f (4 * c + 1)) 11 ^^^ rm (f (4 * c + 2)) 13 ^^^ rm (f (4 * c + 3)) 9 = mix (mix f) (4 * c + 0) ^^^ _ ^^^ dbl (mix (mix f) (4 * c + 0) ^^^ mix (mix f) (4 * c + 1))
    rw [Nat.add_zero, e0, e1, rm_14 _ h0, rm_11 _ h1, rm_13 _ h2, rm_9 _ h3, mixB_at h0 h1 h2 h3, Nat.zero_xor]
  | 1, _ =>
    show 0 ^^^ rm (f (4 * c + 0)) 9 ^^^ rm (f (4 * c + 1)) 14 ^^^ rm (f (4 * c + 2)) 11 ^^^ rm (f (4 * c + 3)) 13 = mix (mix f) (4 * c + 1) ^^^ _ ^^^ dbl (mix (mix f) (4 * c + 1) ^^^ mix (mix f) (4 * c + 2))
    have := mixB_at h1 h2 h3 h0
    rw [show f (4 * c + 1) ^^^ f (4 * c + 2) ^^^ f (4 * c + 3) ^^^ f (4 * c) = f (4 * c) ^^^ f (4 * c + 1) ^^^ f (4 * c + 2) ^^^ f (4 * c + 3) by ac_rfl] at this
    rw [Nat.add_zero, e1, e2, this, rm_9 _ h0, rm_14 _ h1, rm_11 _ h2, rm_13 _ h3, Nat.zero_xor]
    ac_rfl
  | 2, _ =>
    show 0 ^^^ rm (f (4 * c + 0)) 13 ^^^ rm (f (4 * c + 1)) 9 ^^^ rm (f (4 * c + 2)) 14 ^^^ rm (f (4 * c + 3)) 11 = mix (mix f) (4 * c + 2) ^^^ _ ^^^ dbl (mix (mix f) (4 * c + 2) ^^^ mix (mix f) (4 * c + 3))
    have := mixB_at h2 h3 h0 h1
    rw [show f (4 * c + 2) ^^^ f (4 * c + 3) ^^^ f (4 * c) ^^^ f (4 * c + 1) = f (4 * c) ^^^ f (4 * c + 1) ^^^ f (4 * c + 2) ^^^ f (4 * c + 3) by ac_rfl] at this
    rw [Nat.add_zero, e2, e3, this, rm_13 _ h0, rm_9 _ h1, rm_14 _ h2, rm_11 _ h3, Nat.zero_xor]
    ac_rfl
  | 3, _ =>
    show 0 ^^^ rm (f (4 * c + 0)) 11 ^^^ rm (f (4 * c + 1)) 13 ^^^ rm (f (4 * c + 2)) 9 ^^^ rm (f (4 * c + 3)) 14 = mix (mix f) (4 * c + 3) ^^^ _ ^^^ dbl (mix (mix f) (4 * c + 3) ^^^ mix (mix f) (4 * c + 0))
    have := mixB_at h3 h0 h1 h2
    rw [show f (4 * c + 3) ^^^ f (4 * c) ^^^ f (4 * c + 1) ^^^ f (4 * c + 2) = f (4 * c) ^^^ f (4 * c + 1) ^^^ f (4 * c + 2) ^^^ f (4 * c + 3) by ac_rfl] at this
    rw [Nat.add_zero, e3, e0, this, rm_11 _ h0, rm_13 _ h1, rm_9 _ h2, rm_14 _ h3, Nat.zero_xor]
    ac_rfl
end AesM
end Go.Proofs.Ytodjfliakhhjaaa
