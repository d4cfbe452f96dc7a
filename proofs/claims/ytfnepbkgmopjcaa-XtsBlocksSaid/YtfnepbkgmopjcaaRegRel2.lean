/-
  As XRegRel; what the world holds of a value is kept by those operations alone that it does not wait for.
-/
import Derived.Test.YtfnepbkgmopjcaaRegRel
import Derived.Test.YtfnepbkgmopjcaaOwn3
namespace Go.Proofs.Ytfnepbkgmopjcaa
open Go.ChangeShapes Go.WideShapes Go.ChangeAt Go.RowKit
/-- An append to a slice leaves any other slice of the call's own that is no longer as it was, even in the same row. -/
theorem Own.beside {e : TypeId} {k : IntKind} {w w' : World} {B B2 : Nat} {v u : Value} {l m : List Nat} (h : Own e k w B v l) (hu : Own e k w B2 u m) (hg : w.grownBy w' u.ownBlock) (hu' : Own e k w' B2 u m) (hlm : l.length ≤ m.length) : Own e k w' B v l := by
  by_cases hne : Apart v u
  · exact h.keep hg hne
  · rcases h.2 with ⟨rfl, h0⟩ | ⟨g, cap, cur, rfl, hB, hgc, hnc, hcm, hcs, ht⟩
    · rw [List.eq_nil_of_length_eq_zero h0]
      exact Own.nil
    · rcases hu.2 with ⟨rfl, _⟩ | ⟨g2, cap2, cur2, rfl, hB2, hgc2, hnc2, hcm2, hcs2, ht2⟩
      · exact absurd (Apart.nil _) hne
      · have hgg : g2 = g := by
          by_cases e' : g2 = g
          · exact e'
          · exact absurd (fun x hx hx2 => e' (by
              have h1 : g = x := Option.some.inj hx
              have h2 : g2 = x := Option.some.inj hx2
              rw [h1, h2])) hne
        subst hgg
        rw [hgc] at hgc2
        cases hgc2
        rcases hu'.2 with ⟨e', _⟩ | ⟨g3, cap3, cur3, hv3, hB3, hgc3, hnc3, hcm3, hcs3, ht3⟩
        · cases e'
        · simp only [Value.slice.injEq, Option.some.injEq, Addr.mk.injEq, and_true] at hv3
          obtain ⟨rfl, _, rfl⟩ := hv3
          have hcap : cap2 = cap := by omega
          subst hcap
          refine ⟨h.1, .inr ⟨_, _, cur3, rfl, hB, hgc3, hnc, hcm, hcs3, ?_⟩⟩
          rw [Nat.mul_one] at ht ht2 ht3 ⊢
          have h3 : (cur3.toList.take m.length).take l.length = (cur.toList.take m.length).take l.length := by rw [ht3, ht2]
          rw [List.take_take, List.take_take, Nat.min_eq_left hlm, ht] at h3
          exact h3
section
variable {P : Program} {ops : Array Oper}
theorem wp_region_rel2 {id : Nat} {Q : Exit → Act → World → Prop} {C : World → Prop} {S : Nat → Value → Prop} {D : Nat → (Nat → Value) → World → Prop} {K : Nat → (Nat → Value) → World → World → Prop} {a : Act} {w : World} {l : List Oper} (n : Nat)
    (hm : P.follows .mixedOrders = true) (ht : tidy l.toArray = true) (hB : tailB l.toArray n = true)
    (v0 : Nat → Value) (h0 : ∀ j, S j (v0 j)) (hD : ∀ i j vs w w', i < n → j ≠ i → Region.waitsFor .any l.toArray j i = false → D j vs w → K i vs w w' → D j vs w')
    (hL : ∀ j i vs v w, j ≠ i → Region.waitsFor .any l.toArray j i = false → D j vs w → D j (updV vs i v) w)
    (hC : C w.drew)
    (h : ∀ vs : Nat → Value, wpR P l.toArray S D K C (fun vs a' => ∀ w', C w' → (∀ k, k < n → D k vs w') → wpList P l.toArray Q (l.drop n) a' w') 0 vs (l.take n) a) : (Code.region id l.toArray true).wp P Q a w := by
  refine region_core (Γ := {vs : Nat → Value // ∀ j, S j (vs j)}) (C := fun γ L w' => C w' ∧ Closed l.toArray L ∧ ∀ k, k < n → L.getD k false = true → D k γ.1 w') n hm ht hB ⟨v0, h0⟩
    ⟨hC, (fun j o _ hl => by rw [getD_replicate_false] at hl; cases hl), fun k _ hk => by rw [getD_replicate_false] at hk; cases hk⟩ (fun γ => γ.1) ?_ ?_
  · intro i o hi γ L w' hsz hr ⟨hC', hcl, hDs⟩
    have hin : i < n := by
      have := (List.getElem?_eq_some_iff.1 hi).1
      rw [List.length_take] at this; omega
    have hun := getD_both (mem_ready.1 hr).1
    have hcl2 := closed_set hcl hr
    have key := (wpR_at γ.2 (l.take n) 0 a (h γ.1)).2 i o hi
    simp only [Nat.zero_add] at key
    have hwait : ∀ j, Region.waitsFor .any l.toArray i j = true → D j γ.1 w' := fun j hj => by
      have h1 := waits_ready hr hj
      have hji : j < i := by
        obtain ⟨o2, ho2, e2, he2, hb2, hon⟩ := Region.waitsFor_spec hj
        have := tidy_edge ht ho2 e2 he2 hb2
        omega
      exact hDs j (by omega) h1
    have step : ∀ (v : Value) (w2 : World), C w2 → (w2 = w' ∨ K i γ.1 w' w2) → D i (updV γ.1 i v) w2 →
        C w2 ∧ Closed l.toArray (L.setIfInBounds i true) ∧ ∀ k, k < n → (L.setIfInBounds i true).getD k false = true → D k (updV γ.1 i v) w2 := fun v w2 hc hb hd => by
      refine ⟨hc, hcl2, fun k hk hL' => ?_⟩
      by_cases e : k = i
      · subst e; exact hd
      · rw [getD_set_ne false (Ne.symm e)] at hL'
        have hw : Region.waitsFor .any l.toArray k i = false := by
          cases hx : Region.waitsFor .any l.toArray k i with
          | false => rfl
          | true =>
            have := waits_closed hcl hL' hx
            rw [hun] at this
            cases this
        refine hL k i _ v _ e hw ?_
        rcases hb with rfl | hb
        · exact hDs k hk hL'
        · exact hD i k _ _ _ hin e hw (hDs k hk hL') hb
    have upd : ∀ v, S i v → ∀ j, S j (updV γ.1 i v j) := fun v hv j => by
      by_cases e : j = i
      · subst e; rw [updV_self]; exact hv
      · rw [updV_ne _ _ e]; exact γ.2 j
    have keep : ∀ v j, L.getD j false = true → γ.1 j = updV γ.1 i v j := fun v j hj => by
      have : j ≠ i := fun e => by subst e; rw [hun] at hj; cases hj
      rw [updV_ne _ _ this]
    rcases key with ⟨k1, k2⟩ | ⟨k1, k2, k3⟩
    · obtain ⟨v, hv, hg⟩ := k2 w' hC' hwait
      refine ⟨⟨updV γ.1 i v, upd v hv⟩, keep v, .inl ⟨k1, ?_⟩⟩
      simp only [updV_self]
      exact gives_mono hg fun w2 ⟨h1, h2, h3⟩ => step v w2 h1 (.inr h2) h3
    · exact ⟨⟨updV γ.1 i undef, upd undef k2⟩, keep undef, .inr ⟨k1, updV_self _ _ _, step undef w' hC' (.inl rfl) (k3 w')⟩⟩
  · intro γ L w' hall ⟨hC', _, hDs⟩
    have key := (wpR_at γ.2 (l.take n) 0 a (h γ.1)).1
    have ez : (fun i => γ.1 (0 + i)) = γ.1 := funext fun i => by rw [Nat.zero_add]
    rw [ez] at key
    exact key w' hC' fun k hk => hDs k hk (hall k hk)
end
end Go.Proofs.Ytfnepbkgmopjcaa
