/-
  Worlds behind draws alone, and behind one new row.
-/
import Derived.Test.YtfnepbkgmopjcaaByt
namespace Go.Proofs.Ytfnepbkgmopjcaa
open Go.ChangeShapes Go.WideShapes Go.ChangeAt Go.RowKit
def Drew (w w' : World) : Prop := ∃ k, w' = w.drewN k
theorem Drew.refl (w : World) : Drew w w.drew := ⟨1, rfl⟩
theorem Drew.cell {w w' : World} (h : Drew w w') {p : Addr} {v : Value} (hc : w.cell? p = some v) : w'.cell? p = some v := by
  obtain ⟨k, rfl⟩ := h; exact hc
theorem Drew.blk {w w' : World} (h : Drew w w') {g : Nat} {t : TypeId} {cs : Array Value} (hc : Blk w g t cs) : Blk w' g t cs := by
  obtain ⟨k, rfl⟩ := h; exact hc
theorem Drew.below {B : Nat} {a w w' : World} (h : Drew w w') (hb : Below B a w) : Below B a w' := by
  obtain ⟨k, rfl⟩ := h; exact below_drewN hb k
theorem Drew.heap {w w' : World} (h : Drew w w') : w'.heap = w.heap := by obtain ⟨k, rfl⟩ := h; rfl
/-- The worlds of a region in which one new row is made. -/
def Put (w : World) (o : Obj) (bb : Bool) (w' : World) : Prop := match bb with
  | false => Drew w w'
  | true => ∃ w7, Drew w w7 ∧ w' = w7.alloc o
theorem Put.cell {w w' : World} {o : Obj} {bb : Bool} (h : Put w o bb w') {p : Addr} {v : Value} (hp : p.block < w.heap.size) (hc : w.cell? p = some v) : w'.cell? p = some v := by
  cases bb with
  | false => exact Drew.cell h hc
  | true =>
    obtain ⟨w7, h7, rfl⟩ := h
    exact (((Below.refl w7.heap.size w7).alloc (Nat.le_refl _) _).cell (by rw [h7.heap]; exact hp)).trans (h7.cell hc)
theorem Drew.trans {w w' w'' : World} (h : Drew w w') (h2 : Drew w' w'') : Drew w w'' := by
  obtain ⟨a, ha⟩ := h
  obtain ⟨b, hb⟩ := h2
  exact ⟨a + b, by rw [hb, ha]; simp⟩
end Go.Proofs.Ytfnepbkgmopjcaa
