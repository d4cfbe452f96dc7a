/-
  Several cells of a block stored one behind the other.
-/
import Derived.Test.YtfnepbkgmopjcaaMem
import Derived.Deep.MidRow
namespace Go.Proofs.Ytfnepbkgmopjcaa
open Go.RowKit
section
variable {w : World} {g : Nat} {t : TypeId}
/-- The cells vs laid into a row from place o on. -/
theorem blk_setCells {N : Nat} : ∀ (vs : List Value) (o : Nat) (w : World) (F : Nat → Value), Blk w g t (row N F) → o + vs.length ≤ N →
    Blk (w.setCells g o vs) g t (row N fun j => if o ≤ j ∧ j < o + vs.length then vs.getD (j - o) undef else F j) ∧ Below g w (w.setCells g o vs)
  | [], o, w, F, h, _ => by
    rw [World.setCells]
    refine ⟨?_, Below.refl _ _⟩
    rw [row_ext (g := F) fun j _ => if_neg (by rw [List.length_nil]; omega)]
    exact h
  | v :: r, o, w, F, h, hN => by
    rw [List.length_cons] at hN
    have h1 := h.setCell_same o v
    rw [row_set] at h1
    obtain ⟨h2, h3⟩ := blk_setCells r (o + 1) _ _ h1 (by omega)
    rw [World.setCells]
    refine ⟨?_, ((Below.refl g w).setCell (p := ⟨g, o, none⟩) (Nat.le_refl _) v).trans h3⟩
    rw [row_ext (g := fun j => if o ≤ j ∧ j < o + (v :: r).length then (v :: r).getD (j - o) undef else F j) fun j _ => ?_] at h2
    · exact h2
    · rw [List.length_cons]
      by_cases e : j = o
      · subst e
        rw [if_neg (by omega), if_pos rfl, if_pos (by omega), Nat.sub_self]; rfl
      · by_cases e2 : o + 1 ≤ j ∧ j < o + 1 + r.length
        · rw [if_pos e2, if_pos (by omega), show j - o = (j - (o + 1)) + 1 by omega, List.getD_cons_succ]
        · rw [if_neg e2, if_neg e, if_neg (by omega)]
end
end Go.Proofs.Ytfnepbkgmopjcaa
