/-
  A region in the text's order, walked as one that draws it (a class of worlds is handed on; guards are read off).
-/
import Derived.Test.YtfnepbkgmopjcaaRegion
namespace Go.Proofs.Ytfnepbkgmopjcaa
section
variable {P : Program} {ops : Array Oper}
theorem wpK_list {C : World → Prop} {Q : Exit → Act → World → Prop} {rest : List Oper} : ∀ (l : List Oper) (a : Act) (w : World), wpK P ops C (fun a' => ∀ w', C w' → wpList P ops Q rest a' w') l a → C w → wpList P ops Q (l ++ rest) a w
  | [], _, w, h, hC => h w hC
  | o :: l, a, w, h, hC => by
    obtain ⟨v, h1, h2⟩ := h
    rw [List.cons_append, wpList]
    rcases h1 with ⟨hw, hg⟩ | ⟨hw, rfl⟩
    · rw [if_pos hw]
      exact .inl (wp_of_gives (hg w hC) fun w' hC' => wpK_list l _ w' h2 hC')
    · rw [if_neg (by rw [hw]; exact Bool.false_ne_true)]
      exact wpK_list l _ w h2 hC
theorem wp_region_fixed {id : Nat} {Q : Exit → Act → World → Prop} {C : World → Prop} {a : Act} {w : World} {l : List Oper} (n : Nat) (hC : C w)
    (h : wpK P l.toArray C (fun a' => ∀ w', C w' → wpList P l.toArray Q (l.drop n) a' w') (l.take n) a) : (Code.region id l.toArray false).wp P Q a w := by
  refine wp_region_lit ?_
  have := wpK_list _ _ _ h hC
  rwa [List.take_append_drop] at this
end
end Go.Proofs.Ytfnepbkgmopjcaa
