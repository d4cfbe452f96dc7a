/-
  A literal of slices of bytes.
-/
import Derived.Test.YtnnhnlabkbjacaaDoorHTag
namespace Go.Proofs.YtnnhnlabkbjacaaDoor
open Go.ChangeShapes Go.WideShapes Go.ChangeAt Go.RowKit
theorem prts_lit {w : World} {B g : Nat} {t : TypeId} {cs : Array Value} {ls : List (List Nat)} (hb : Blk w g t cs) (hg : g < B) (h : ∀ i, i < ls.length → ∃ A' c, cs[i]? = some (.slice A' (ls.getD i []).length c) ∧ (ls.getD i []).length ≤ c ∧ c ≤ maxLen ∧ Byt w B A' (ls.getD i [])) : Prts w B (some ⟨g, 0, none⟩) ls := fun _ =>
  ⟨g, 0, rfl, hg, fun i hi => by
    obtain ⟨A', c, h1, h2, h3, h4⟩ := h i hi
    exact ⟨A', c, by rw [Nat.zero_add, hb.cell i, h1], h2, h3, h4⟩⟩
end Go.Proofs.YtnnhnlabkbjacaaDoor
