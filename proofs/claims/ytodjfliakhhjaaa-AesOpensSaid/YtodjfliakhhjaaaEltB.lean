/-
  The type of slices of bytes; bytes out of a literal.
-/
import Derived.Test.YtodjfliakhhjaaaOwn
namespace Go.Proofs.Ytodjfliakhhjaaa
open Go.ChangeShapes Go.WideShapes Go.ChangeAt Go.RowKit
theorem eltB : Elt 55 5 .u8 := elt_of Try.underlying55 (by kernel_rfl) (by kernel_rfl) (by kernel_rfl)
theorem byt_lit {w : World} {B g : Nat} {t : TypeId} {cs : Array Value} {fr : Nat × Nat} (h : w.heap[g]? = some (.cells cs t fr)) (hg : g < B) {l : List Nat} (hl : ∀ j, j < l.length → cs[j]? = some (.int .u8 (l.getD j 0 : Nat))) : Byt w B (some ⟨g, 0, none⟩) l := fun _ =>
  ⟨g, 0, rfl, hg, fun i hi => by rw [Nat.zero_add, cell_of_row w g i cs t fr h]; exact hl i hi⟩
theorem lit_ok {l : List Nat} {cs : Array Value} (h : cs = (nums .u8 l).toArray) : ∀ j, j < l.length → cs[j]? = some (.int .u8 (l.getD j 0 : Nat)) := fun j hj => by
  rw [h, List.getElem?_toArray]; exact nums_get .u8 hj
end Go.Proofs.Ytodjfliakhhjaaa
