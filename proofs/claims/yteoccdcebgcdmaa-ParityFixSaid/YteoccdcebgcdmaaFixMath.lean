/-
  The different numbers of a list, rising, against the marks of the program (no text of the program).
-/
import Derived.Test.YteoccdcebgcdmaaUniq
import Derived.Test.YteoccdcebgcdmaaParMath
import Derived.Test.YteoccdcebgcdmaaParFix
namespace Go.Proofs.Yteoccdcebgcdmaa
open Go.ChangeShapes Go.WideShapes Go.ChangeAt Go.RowKit
/-- The marks of a list. -/
def mk (l : List Int) : Nat → Bool := marks l.length fun i => l.getD i 0
theorem mk_iff {l : List Int} {j : Nat} : mk l j = true ↔ (j : Int) ∈ l := by
  unfold mk
  rw [marks_iff]
  constructor
  · rintro ⟨i, hi, h⟩
    rw [← h, List.getD_eq_getElem?_getD, List.getElem?_eq_getElem hi]
    exact List.getElem_mem _
  · intro h
    obtain ⟨i, hi, e⟩ := List.mem_iff_getElem.1 h
    exact ⟨i, hi, by rw [List.getD_eq_getElem?_getD, List.getElem?_eq_getElem hi]; exact e⟩
theorem cnt_uniq {l : List Int} {N : Nat} (hN : N ≤ 64) (h : ∀ x, x ∈ l → 0 ≤ x ∧ x < N) : cntM (mk l) = (uniq l).length := by
  refine Nat.le_antisymm ?_ ?_
  · have := cnt_le (M := mk l) ((uniq l).map Int.toNat) fun x hx => List.mem_map.2 ⟨(x : Int), mem_uniq.2 (mk_iff.1 hx), by simp⟩
    rwa [List.length_map] at this
  · have := cnt_ge (M := mk l) ((uniq l).map Int.toNat) (List.pairwise_map.2 ((uniq_up l).imp_of_mem fun {a b} ha hb hab => by
      have := h a (mem_uniq.1 ha)
      omega)) fun x hx => by
        obtain ⟨y, hy, rfl⟩ := List.mem_map.1 hx
        have hy' := mem_uniq.1 hy
        have := h y hy'
        exact ⟨by omega, mk_iff.2 (by rw [Int.toNat_of_nonneg this.1]; exact hy')⟩
    rwa [List.length_map] at this
/-- The data columns that are lost, rising. -/
theorem gaps_uniq {l : List Int} {m : Nat} (h : ∀ x, x ∈ l → 0 ≤ x) : (gapsL m (mk l)).map (fun x : Nat => (x : Int)) = (uniq l).filter fun x => decide (x < (m : Int)) := by
  refine up_same ?_ ((uniq_up l).filter _) fun z => ?_
  · refine List.pairwise_map.2 ?_
    unfold gapsL
    exact (List.pairwise_lt_range.filter _).imp fun {a b} hab => by omega
  · rw [List.mem_map, List.mem_filter, mem_uniq]
    constructor
    · rintro ⟨x, hx, rfl⟩
      have := gaps_mem.1 hx
      exact ⟨mk_iff.1 this.2, by simpa using this.1⟩
    · rintro ⟨h1, h2⟩
      have := h z h1
      have h2' : z < (m : Int) := by simpa using h2
      exact ⟨z.toNat, gaps_mem.2 ⟨by omega, mk_iff.2 (by rw [Int.toNat_of_nonneg this]; exact h1)⟩, Int.toNat_of_nonneg this⟩
/-- In a rising list the first is the least, the last the greatest. -/
theorem up_first {u : List Int} (hu : u.Pairwise (· < ·)) {x : Int} (hx : x ∈ u) : u.getD 0 0 ≤ x := by
  match u, hu, hx with
  | y :: t, hu, hx =>
    rcases List.mem_cons.1 hx with rfl | hx
    · simp
    · have := (List.pairwise_cons.1 hu).1 x hx
      simp; omega
theorem up_last : ∀ {u : List Int}, u.Pairwise (· < ·) → ∀ {x : Int}, x ∈ u → x ≤ u.getD (u.length - 1) 0
  | [y], _, x, hx => by simp at hx; subst hx; simp
  | y :: z :: t, hu, x, hx => by
    have hu' := List.pairwise_cons.1 hu
    have hl := up_last hu'.2 (x := z) (by simp)
    have e : (y :: z :: t).getD ((y :: z :: t).length - 1) 0 = (z :: t).getD ((z :: t).length - 1) 0 := by simp
    rw [e]
    rcases List.mem_cons.1 hx with rfl | hx
    · have := hu'.1 z (by simp); omega
    · exact up_last hu'.2 hx
/-- The document's test for a number that is no column's. -/
theorem out_iff {l : List Int} {N : Nat} : anyOut N l.length (fun i => l.getD i 0) = true ↔ 0 < (uniq l).length ∧ ((uniq l).getD 0 0 < 0 ∨ (N : Int) ≤ (uniq l).getD ((uniq l).length - 1) 0) := by
  have key : anyOut N l.length (fun i => l.getD i 0) = true ↔ ∃ x, x ∈ l ∧ (x < 0 ∨ (N : Int) ≤ x) := by
    unfold anyOut
    rw [List.any_eq_true]
    constructor
    · rintro ⟨i, hi, h⟩
      have hi := List.mem_range.1 hi
      refine ⟨l.getD i 0, ?_, by simpa [outB] using h⟩
      rw [List.getD_eq_getElem?_getD, List.getElem?_eq_getElem hi]
      exact List.getElem_mem _
    · rintro ⟨x, hx, h⟩
      obtain ⟨i, hi, e⟩ := List.mem_iff_getElem.1 hx
      refine ⟨i, List.mem_range.2 hi, ?_⟩
      have e' : l.getD i 0 = x := by rw [List.getD_eq_getElem?_getD, List.getElem?_eq_getElem hi]; exact e
      show outB N (l.getD i 0) = true
      rw [e']
      simpa [outB] using h
  rw [key]
  constructor
  · rintro ⟨x, hx, h⟩
    have hu := mem_uniq.2 hx
    have h1 := up_first (uniq_up l) hu
    have h2 := up_last (uniq_up l) hu
    exact ⟨List.length_pos_of_mem hu, by omega⟩
  · rintro ⟨h0, h | h⟩
    · refine ⟨_, mem_uniq.1 (?_ : (uniq l).getD 0 0 ∈ uniq l), .inl h⟩
      rw [List.getD_eq_getElem?_getD, List.getElem?_eq_getElem h0]
      exact List.getElem_mem _
    · refine ⟨_, mem_uniq.1 (?_ : (uniq l).getD ((uniq l).length - 1) 0 ∈ uniq l), .inr h⟩
      rw [List.getD_eq_getElem?_getD, List.getElem?_eq_getElem (by omega)]
      exact List.getElem_mem _
end Go.Proofs.Yteoccdcebgcdmaa
