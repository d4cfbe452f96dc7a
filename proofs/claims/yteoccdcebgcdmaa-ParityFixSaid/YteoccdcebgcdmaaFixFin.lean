/-
  What is lost, two columns at most; the parities put back a byte at a time (no text of the program).
-/
import Derived.Test.YteoccdcebgcdmaaFixCol
namespace Go.Proofs.Yteoccdcebgcdmaa
open Go.ChangeShapes Go.WideShapes Go.ChangeAt Go.RowKit
theorem three_out {u : List Int} (hu : u.length ≤ 2) {a b c : Int} (ha : a ∈ u) (hb : b ∈ u) (hc : c ∈ u) (h1 : a ≠ b) (h2 : a ≠ c) (h3 : b ≠ c) : False := by
  match u, hu, ha, hb, hc with
  | [], _, ha, _, _ => exact absurd ha (by simp)
  | [p], _, ha, hb, _ => simp at ha hb; omega
  | [p, q], _, ha, hb, hc => simp at ha hb hc; omega
  | _ :: _ :: _ :: _, hu, _, _, _ => simp at hu
theorem gl_mem {m x : Nat} {u : List Int} (h : x ∈ gapsL m (mk u)) : x < m ∧ (x : Int) ∈ u := ⟨(gaps_mem.1 h).1, mk_iff.1 (gaps_mem.1 h).2⟩
theorem gl_cases {m : Nat} {u : List Int} (hu : u.length ≤ 2) :
    gapsL m (mk u) = [] ∨ (∃ x, gapsL m (mk u) = [x] ∧ x < m) ∨ ∃ x y, gapsL m (mk u) = [x, y] ∧ x < y ∧ y < m := by
  have hp : (gapsL m (mk u)).Pairwise (· < ·) := by unfold gapsL; exact List.pairwise_lt_range.filter _
  have hm : ∀ x, x ∈ gapsL m (mk u) → x < m ∧ (x : Int) ∈ u := fun x hx => gl_mem hx
  revert hp hm
  generalize gapsL m (mk u) = l
  intro hp hm
  match l, hp, hm with
  | [], _, _ => exact .inl rfl
  | [x], _, hm => exact .inr (.inl ⟨x, rfl, (hm x (by simp)).1⟩)
  | [x, y], hp, hm => exact .inr (.inr ⟨x, y, rfl, by simpa using hp, (hm y (by simp)).1⟩)
  | x :: y :: z :: _, hp, hm =>
    have h1 := List.pairwise_cons.1 hp
    have h2 := List.pairwise_cons.1 h1.2
    have e1 := h1.1 y (by simp)
    have e2 := h2.1 z (by simp)
    exact absurd (three_out hu (hm x (by simp)).2 (hm y (by simp)).2 (hm z (by simp)).2 (by omega) (by omega) (by omega)) id
theorem two_out {m x y z : Nat} {u : List Int} (hu : u.length ≤ 2) (h : gapsL m (mk u) = [x, y]) (hxy : x < y) (hz : m ≤ z) : mk u z = false := by
  cases e : mk u z with
  | false => rfl
  | true =>
    have hx := gl_mem (show x ∈ gapsL m (mk u) by rw [h]; simp)
    have hy := gl_mem (show y ∈ gapsL m (mk u) by rw [h]; simp)
    exact absurd (three_out hu hx.2 hy.2 (mk_iff.1 e) (by omega) (by omega) (by omega)) id
theorem one_out {m x : Nat} {u : List Int} (hu : u.length ≤ 2) (h : gapsL m (mk u) = [x]) (hm : mk u m = true) : mk u (m + 1) = false := by
  cases e : mk u (m + 1) with
  | false => rfl
  | true =>
    have hx := gl_mem (show x ∈ gapsL m (mk u) by rw [h]; simp)
    exact absurd (three_out hu hx.2 (mk_iff.1 hm) (mk_iff.1 e) (by omega) (by omega) (by omega)) id
/-- The row while one lost column's parity is put back, t bytes done. -/
def fin (m t : Nat) (M M' : Nat → Bool) (G : Nat → Nat → Nat) : Nat → Nat → Nat := fun j q => if q < t then mendP m M' G j q else mendP m M G j q
theorem mendP_none {m : Nat} {G : Nat → Nat → Nat} {M : Nat → Bool} (h1 : M m = false) (h2 : M (m + 1) = false) : mendP m M G = G := by
  funext j
  unfold mendP
  simp [h1, h2]
theorem mendP_data {m i : Nat} {G : Nat → Nat → Nat} {M : Nat → Bool} (h : i < m) : mendP m M G i = G i := by
  unfold mendP
  rw [if_neg (by omega), if_neg (by omega)]
theorem mendP_byte {m : Nat} {G : Nat → Nat → Nat} {M : Nat → Bool} (hG : ∀ i k, G i k < 256) : ∀ i k, mendP m M G i k < 256 := fun i k => by
  unfold mendP
  split
  · exact PP_lt hG m k
  · split
    · exact QQ_lt (F := G) m k
    · exact hG i k
theorem fin_lt {m t : Nat} {M M' : Nat → Bool} {G : Nat → Nat → Nat} (hG : ∀ i k, G i k < 256) : ∀ i k, fin m t M M' G i k < 256 := fun i k => by
  unfold fin
  split
  · exact mendP_byte hG i k
  · exact mendP_byte hG i k
theorem fin_zero {m : Nat} {M M' : Nat → Bool} {G : Nat → Nat → Nat} : fin m 0 M M' G = mendP m M G := by funext j q; unfold fin; simp
theorem fin_data {m t i : Nat} {M M' : Nat → Bool} {G : Nat → Nat → Nat} (h : i < m) : fin m t M M' G i = G i := by
  funext q
  unfold fin
  rw [mendP_data h, mendP_data h, ite_self]
theorem fin_PP {m t k : Nat} {M M' : Nat → Bool} {G : Nat → Nat → Nat} : PP (fin m t M M' G) m k = PP G m k := PP_same m fun i hi => by rw [fin_data hi]
theorem fin_QQ {m t k : Nat} {M M' : Nat → Bool} {G : Nat → Nat → Nat} : QQ (fin m t M M' G) m k = QQ G m k := QQ_same m fun i hi => by rw [fin_data hi]
theorem fin_64 {m : Nat} {M M' : Nat → Bool} {G : Nat → Nat → Nat} {i k : Nat} (hk : k < 64) : fin m 64 M M' G i k = mendP m M' G i k := by unfold fin; rw [if_pos hk]
theorem fin_step0 {m t x : Nat} {l : List Int} {G : Nat → Nat → Nat} (hx : x < m) : fin m (t + 1) (mk l) (mk (l ++ [(x : Int)])) G = fin m t (mk l) (mk (l ++ [(x : Int)])) G := by
  have e : mendP m (mk (l ++ [(x : Int)])) G = mendP m (mk l) G := by
    unfold mendP
    rw [mk_snoc, mk_snoc]
    simp only [show ¬ m = x by omega, show ¬ m + 1 = x by omega, decide_false, Bool.or_false]
  unfold fin
  rw [e]
  funext j q
  simp
theorem fin_stepP {m t : Nat} {l : List Int} {G : Nat → Nat → Nat} : fin m (t + 1) (mk l) (mk (l ++ [(m : Int)])) G = upd2 (fin m t (mk l) (mk (l ++ [(m : Int)])) G) m t (PP G m t) := by
  have e : ∀ j q, j ≠ m → mendP m (mk (l ++ [(m : Int)])) G j q = mendP m (mk l) G j q := fun j q hj => by
    unfold mendP
    rw [mk_snoc (x := m) (j := m + 1)]
    simp [hj]
  have e2 : mendP m (mk (l ++ [(m : Int)])) G m t = PP G m t := by
    unfold mendP
    rw [if_pos ⟨rfl, by rw [mk_snoc]; simp⟩]
  funext j q
  unfold upd2 fin
  by_cases hj : j = m
  · subst hj
    by_cases hq : q = t
    · subst hq
      rw [if_pos (by omega), if_pos ⟨rfl, rfl⟩, e2]
    · rw [if_neg (c := j = j ∧ q = t) (by omega)]
      by_cases h : q < t
      · rw [if_pos (by omega), if_pos h]
      · rw [if_neg (by omega), if_neg h]
  · rw [if_neg (c := j = m ∧ q = t) (by omega), e j q hj, ite_self, ite_self]
theorem fin_stepQ {m t : Nat} {l : List Int} {G : Nat → Nat → Nat} : fin m (t + 1) (mk l) (mk (l ++ [((m + 1 : Nat) : Int)])) G = upd2 (fin m t (mk l) (mk (l ++ [((m + 1 : Nat) : Int)])) G) (m + 1) t (QQ G m t) := by
  have e : ∀ j q, j ≠ m + 1 → mendP m (mk (l ++ [((m + 1 : Nat) : Int)])) G j q = mendP m (mk l) G j q := fun j q hj => by
    unfold mendP
    rw [mk_snoc (x := m + 1) (j := m)]
    simp [hj]
  have e2 : mendP m (mk (l ++ [((m + 1 : Nat) : Int)])) G (m + 1) t = QQ G m t := by
    unfold mendP
    rw [if_neg (by omega), if_pos ⟨rfl, by rw [mk_snoc]; simp⟩]
  funext j q
  unfold upd2 fin
  by_cases hj : j = m + 1
  · subst hj
    by_cases hq : q = t
    · subst hq
      rw [if_pos (by omega), if_pos ⟨rfl, rfl⟩, e2]
    · rw [if_neg (c := m + 1 = m + 1 ∧ q = t) (by omega)]
      by_cases h : q < t
      · rw [if_pos (by omega), if_pos h]
      · rw [if_neg (by omega), if_neg h]
  · rw [if_neg (c := j = m + 1 ∧ q = t) (by omega), e j q hj, ite_self, ite_self]
/-- A row before and behind one byte's store into column j. -/
def yb (bb : Bool) (Y : Nat → Nat → Nat) (j t v : Nat) : Nat → Nat → Nat := bif bb then upd2 Y j t v else Y
theorem yb_PP {bb : Bool} {Y : Nat → Nat → Nat} {j t v m k : Nat} (h : m ≤ j) : PP (yb bb Y j t v) m k = PP Y m k := PP_same m fun i hi => by
  cases bb with
  | true => show upd2 Y j t v i k = _; unfold upd2; rw [if_neg (by omega)]
  | false => rfl
theorem yb_QQ {bb : Bool} {Y : Nat → Nat → Nat} {j t v m k : Nat} (h : m ≤ j) : QQ (yb bb Y j t v) m k = QQ Y m k := QQ_same m fun i hi => by
  cases bb with
  | true => show upd2 Y j t v i k = _; unfold upd2; rw [if_neg (by omega)]
  | false => rfl
theorem yb_lt {bb : Bool} {Y : Nat → Nat → Nat} {j t v : Nat} (hY : ∀ i k, Y i k < 256) (hv : v < 256) : ∀ i k, yb bb Y j t v i k < 256 := fun i k => by
  cases bb with
  | true =>
    show upd2 Y j t v i k < 256
    unfold upd2
    split
    · exact hv
    · exact hY i k
  | false => exact hY i k
end Go.Proofs.Yteoccdcebgcdmaa
