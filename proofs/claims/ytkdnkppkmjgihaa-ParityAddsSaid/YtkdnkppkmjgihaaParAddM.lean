/-
  P2.6, the mathematics: parities add up; changes one behind the other.
-/
import Derived.Test.YtkdnkppkmjgihaaParMath
import Derived.Test.YtkdnkppkmjgihaaParChange
namespace Go.Proofs.Ytkdnkppkmjgihaa
/-- Two lists, byte by byte added. -/
def sumF (F G : Nat → Nat → Nat) : Nat → Nat → Nat := fun i k => F i k ^^^ G i k
theorem sumF_lt {F G : Nat → Nat → Nat} (hF : ∀ i k, F i k < 256) (hG : ∀ i k, G i k < 256) : ∀ i k, sumF F G i k < 256 := fun i k => GfM.xor_lt (hF i k) (hG i k)
theorem PP_sum {F G : Nat → Nat → Nat} {k : Nat} : ∀ n, PP (sumF F G) n k = PP F n k ^^^ PP G n k
  | 0 => by simp [PP]
  | n + 1 => by
    unfold PP
    rw [PP_sum n]
    exact GfM.xor4 _ _ _ _
theorem QQ_sum {F G : Nat → Nat → Nat} {k : Nat} : ∀ n, QQ (sumF F G) n k = QQ F n k ^^^ QQ G n k
  | 0 => by simp [QQ]
  | n + 1 => by
    unfold QQ
    rw [QQ_sum n]
    show _ ^^^ GfM.mul (GfM.pw n) (F n k ^^^ G n k) = _
    rw [GfM.mul_xor_right]
    exact GfM.xor4 _ _ _ _
/-- Old data ahead of i, new ones from i on. -/
def mixF (i : Nat) (F G : Nat → Nat → Nat) : Nat → Nat → Nat := fun j => if j < i then F j else G j
theorem mixF_all {n : Nat} {F G : Nat → Nat → Nat} {k : Nat} : PP (mixF n F G) n k = PP F n k ∧ QQ (mixF n F G) n k = QQ F n k :=
  ⟨PP_same n fun i hi => by unfold mixF; rw [if_pos hi], QQ_same n fun i hi => by unfold mixF; rw [if_pos hi]⟩
theorem mixF_none {n : Nat} {F G : Nat → Nat → Nat} {k : Nat} : PP (mixF 0 F G) n k = PP G n k ∧ QQ (mixF 0 F G) n k = QQ G n k :=
  ⟨PP_same n fun i _ => by unfold mixF; rw [if_neg (by omega)], QQ_same n fun i _ => by unfold mixF; rw [if_neg (by omega)]⟩
theorem mixF_P {n i : Nat} {F G : Nat → Nat → Nat} {k : Nat} (hi : i < n) : PP (mixF (i + 1) F G) n k ^^^ (F i k ^^^ G i k) = PP (mixF i F G) n k := by
  have h := PP_off (Z := mixF (i + 1) F G) (F := mixF i F G) (k := k) (x := i) n hi fun j _ hne => by
    unfold mixF
    by_cases e : j < i
    · rw [if_pos e, if_pos (by omega)]
    · rw [if_neg e, if_neg (by omega)]
  have e1 : mixF (i + 1) F G i k = F i k := by unfold mixF; rw [if_pos (by omega)]
  have e2 : mixF i F G i k = G i k := by unfold mixF; rw [if_neg (by omega)]
  rw [e1, e2] at h
  rw [← Nat.xor_assoc, h, xcan]
theorem mixF_Q {n i : Nat} {F G : Nat → Nat → Nat} {k : Nat} (hi : i < n) : QQ (mixF (i + 1) F G) n k ^^^ GfM.mul (GfM.pw i) (F i k ^^^ G i k) = QQ (mixF i F G) n k := by
  have h := QQ_off (Z := mixF (i + 1) F G) (F := mixF i F G) (k := k) (x := i) n hi fun j _ hne => by
    unfold mixF
    by_cases e : j < i
    · rw [if_pos e, if_pos (by omega)]
    · rw [if_neg e, if_neg (by omega)]
  have e1 : mixF (i + 1) F G i k = F i k := by unfold mixF; rw [if_pos (by omega)]
  have e2 : mixF i F G i k = G i k := by unfold mixF; rw [if_neg (by omega)]
  rw [e1, e2] at h
  rw [GfM.mul_xor_right, ← Nat.xor_assoc, h, xcan]
end Go.Proofs.Ytkdnkppkmjgihaa
