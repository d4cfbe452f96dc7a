/-
  Lists of ints that come in.
-/
import Derived.Test.YteoccdcebgcdmaaOpen
import Derived.Test.YteoccdcebgcdmaaOwnZ
namespace Go.Proofs.Yteoccdcebgcdmaa
open Go.ChangeShapes Go.WideShapes Go.ChangeAt Go.RowKit Go.Deep
section
variable {H : Type} {enc : TypeId × Value → H} {w : World} {base : Nat} {spare : Nat → Bool} {held : Bool}
theorem cells_i64 : Try.prog.cellsOf 3 = 1 := by kernel_rfl
theorem open_intl {r : Reach} {b0 : Nat} {v : Value} {d : DataW H} {p : List MemPlace} (hv : Value.okWide Try.prog w r b0 34 v) (h : DataW.Trod enc Try.prog w base spare held 34 v d p) (hlt : ∀ x ∈ p, x.block < w.heap.size) :
    ∃ (A : Option Addr) (l : List Int) (n cap : Nat), v = .slice A n cap ∧ l.length = n ∧ n ≤ cap ∧ cap ≤ maxLen ∧ IntL w w.heap.size A l ∧ (A = none → n = 0 ∧ cap = 0) := by
  obtain ⟨A, n, cap, rfl⟩ := okWide_slice Try.underlying34 hv
  obtain ⟨fuel, hf⟩ := h
  rcases open_slice Try.underlying34 hf with ⟨hcs, _⟩ | ⟨a, len, cap', m, fu, D, Pl, hcs, hb, hl, hm, hmm, hx, hi⟩
  · simp [Value.cells] at hcs
    obtain ⟨rfl, rfl, rfl⟩ := hcs
    exact ⟨none, [], 0, 0, rfl, rfl, Nat.le_refl _, Nat.zero_le _, IntL.empt rfl, fun _ => ⟨rfl, rfl⟩⟩
  · simp [Value.cells] at hcs
    obtain ⟨rfl, rfl, rfl⟩ := hcs
    have hnm : n ≤ m := by rw [hmm]; split <;> omega
    have one : ∀ i, i < m → ∃ x : Int, w.cell? (a.add i) = some (.int .i64 x) := fun i him => by
      obtain ⟨cs', hc, ht⟩ := hi i him
      obtain ⟨x, e1, e2, wf⟩ := DataW.trod_int Try.underlying3 ht
      have h3 := World.cells?_some hc
      rw [cells_i64] at h3
      refine ⟨x, ?_⟩
      have h6 := h3.2.2 0 (by omega)
      rw [e1] at h6
      simpa [Addr.add] using h6
    obtain ⟨F, hF⟩ := choose_lt one
    refine ⟨some a, (List.range n).map F, n, cap, rfl, by simp, hl, hm, fun hn => ?_, fun h => by cases h⟩
    have hn' : 0 < n := by simpa using hn
    have h0 := hF 0 (by omega)
    have hsp : a.spot = none := by
      simp only [Nat.add_zero, Addr.add] at h0
      unfold World.cell? at h0
      split at h0
      · cases hs : a.spot with
        | none => rfl
        | some s => simp [hs] at h0
      · cases h0
    have hblk : a.block < w.heap.size := by
      have := World.block_lt_of_cell? w _ h0
      simpa [Addr.add] using this
    obtain ⟨b, o, sp⟩ := a
    subst hsp
    refine ⟨b, o, rfl, hblk, fun i hin => ?_⟩
    have hin' : i < n := by simpa using hin
    have := hF i (by omega)
    rw [Addr.add_mid] at this
    rw [this]
    congr 2
    show F i = ((List.range n).map F).getD i 0
    rw [List.getD_eq_getElem?_getD, List.getElem?_map, List.getElem?_range hin']; rfl
end
end Go.Proofs.Yteoccdcebgcdmaa
