/-
  A region that draws its order, whose values may hang on the order (addresses of what it makes): of each operation's value one states what it is like (S, of no world) and what the world then holds of it and of those it waits for (D, kept by what the others do: K).
-/
import Derived.Test.YtfnepbkgmopjcaaRegNew
namespace Go.Proofs.Ytfnepbkgmopjcaa
open Go.RowKit
section
variable {P : Program} {ops : Array Oper}
def updV (vs : Nat → Value) (i : Nat) (v : Value) : Nat → Value := fun j => if j = i then v else vs j
theorem updV_self (vs : Nat → Value) (i : Nat) (v : Value) : updV vs i v i = v := if_pos rfl
theorem updV_ne (vs : Nat → Value) {i j : Nat} (v : Value) (h : j ≠ i) : updV vs i v j = vs j := if_neg h
/-- The operations in the order of the text, the k-th first. -/
def wpR (P : Program) (ops : Array Oper) (S : Nat → Value → Prop) (D : Nat → (Nat → Value) → World → Prop) (K : Nat → (Nat → Value) → World → World → Prop) (C : World → Prop) (Q : (Nat → Value) → Act → Prop) : Nat → (Nat → Value) → List Oper → Act → Prop
  | _, vs, [], a => Q vs a
  | k, vs, o :: rest, a => ((Region.wanted o (yielded ops a.tmps) = true ∧ ∀ w, C w → (∀ j, Region.waitsFor .any ops k j = true → D j vs w) →
      ∃ v, S k v ∧ Gives P o a w v fun w' => C w' ∧ K k vs w w' ∧ D k (updV vs k v) w') ∨
      (Region.wanted o (yielded ops a.tmps) = false ∧ S k undef ∧ ∀ w, D k (updV vs k undef) w)) ∧ (S k (vs k) → wpR P ops S D K C Q (k + 1) vs rest (a.put o.dst (vs k)))
theorem wpR_at {S : Nat → Value → Prop} {D : Nat → (Nat → Value) → World → Prop} {K : Nat → (Nat → Value) → World → World → Prop} {C : World → Prop} {Qk : (Nat → Value) → Act → Prop} {vs : Nat → Value} (hS : ∀ j, S j (vs j)) : ∀ (l : List Oper) (k : Nat) (a : Act), wpR P ops S D K C Qk k vs l a →
    Qk vs (lexF l (fun i => vs (k + i)) l.length a) ∧ ∀ i o, l[i]? = some o →
      ((Region.wanted o (yielded ops (lexF l (fun i => vs (k + i)) i a).tmps) = true ∧ ∀ w, C w → (∀ j, Region.waitsFor .any ops (k + i) j = true → D j vs w) →
        ∃ v, S (k + i) v ∧ Gives P o (lexF l (fun i => vs (k + i)) i a) w v fun w' => C w' ∧ K (k + i) vs w w' ∧ D (k + i) (updV vs (k + i) v) w') ∨
      (Region.wanted o (yielded ops (lexF l (fun i => vs (k + i)) i a).tmps) = false ∧ S (k + i) undef ∧ ∀ w, D (k + i) (updV vs (k + i) undef) w))
  | [], k, a, h => ⟨h, fun i o hi => by simp at hi⟩
  | o :: l, k, a, h => by
    obtain ⟨h1, h2⟩ := h
    obtain ⟨hq, hs⟩ := wpR_at hS l (k + 1) _ (h2 (hS k))
    have e : (fun i => vs (k + 1 + i)) = fun i => vs (k + (i + 1)) := funext fun i => by rw [show k + 1 + i = k + (i + 1) by omega]
    rw [e] at hq hs
    refine ⟨?_, fun i o' hi => ?_⟩
    · rw [List.length_cons, lexF_cons]; exact hq
    · cases i with
      | zero =>
        simp only [List.getElem?_cons_zero, Option.some.injEq] at hi
        subst hi
        exact h1
      | succ i =>
        rw [lexF_cons, show k + (i + 1) = k + 1 + i by omega]
        exact hs i o' (by simpa using hi)
theorem waits_ready {L : Array Bool} {i j : Nat} (hr : i ∈ Region.ready .any ops L) (hw : Region.waitsFor .any ops i j = true) : L.getD j false = true := by
  obtain ⟨hun, o, ho, hall⟩ := mem_ready.1 hr
  obtain ⟨o2, ho2, e2, he2, hb2, hon⟩ := Region.waitsFor_spec hw
  obtain rfl : o = o2 := Option.some.inj (ho.symm.trans ho2)
  have h1 := hall e2 he2 hb2
  rw [hon] at h1
  exact h1
theorem waits_closed {L : Array Bool} {i j : Nat} (hc : Closed ops L) (hl : L.getD i false = true) (hw : Region.waitsFor .any ops i j = true) : L.getD j false = true := by
  obtain ⟨o2, ho2, e2, he2, hb2, hon⟩ := Region.waitsFor_spec hw
  have := hc i o2 ho2 hl e2 he2 hb2
  rw [hon] at this
  exact this
theorem wp_region_rel {id : Nat} {Q : Exit → Act → World → Prop} {C : World → Prop} {S : Nat → Value → Prop} {D : Nat → (Nat → Value) → World → Prop} {K : Nat → (Nat → Value) → World → World → Prop} {a : Act} {w : World} {l : List Oper} (n : Nat)
    (hm : P.follows .mixedOrders = true) (ht : tidy l.toArray = true) (hB : tailB l.toArray n = true)
    (v0 : Nat → Value) (h0 : ∀ j, S j (v0 j)) (hD : ∀ i j vs w w', i < n → j ≠ i → D j vs w → K i vs w w' → D j vs w')
    (hL : ∀ j i vs v w, j ≠ i → Region.waitsFor .any l.toArray j i = false → D j vs w → D j (updV vs i v) w)
    (hC : C w.drew)
    (h : ∀ vs : Nat → Value, wpR P l.toArray S D K C (fun vs a' => ∀ w', C w' → (∀ k, k < n → D k vs w') → wpList P l.toArray Q (l.drop n) a' w') 0 vs (l.take n) a) : (Code.region id l.toArray true).wp P Q a w := by
  refine region_core (Γ := {vs : Nat → Value // ∀ j, S j (vs j)}) (C := fun γ L w' => C w' ∧ Closed l.toArray L ∧ ∀ k, k < n → L.getD k false = true → D k γ.1 w') n hm ht hB ⟨v0, h0⟩
    ⟨hC, (fun j o _ hl => by rw [getD_replicate_false] at hl; cases hl), fun k _ hk => by rw [getD_replicate_false] at hk; cases hk⟩ (fun γ => γ.1) ?_ ?_
  · intro i o hi γ L w' hsz hr ⟨hC', hcl, hDs⟩
    have hin : i < n := by
      have := (List.getElem?_eq_some_iff.1 hi).1
      rw [List.length_take] at this; omega
    have hun := getD_both (mem_ready.1 hr).1
    have hcl2 := closed_set hcl hr
    have key := (wpR_at γ.2 (l.take n) 0 a (h γ.1)).2 i o hi
    simp only [Nat.zero_add] at key
    have hwait : ∀ j, Region.waitsFor .any l.toArray i j = true → D j γ.1 w' := fun j hj => by
      have h1 := waits_ready hr hj
      have hji : j < i := by
        obtain ⟨o2, ho2, e2, he2, hb2, hon⟩ := Region.waitsFor_spec hj
        have := tidy_edge ht ho2 e2 he2 hb2
        omega
      exact hDs j (by omega) h1
    have step : ∀ (v : Value) (w2 : World), C w2 → (w2 = w' ∨ K i γ.1 w' w2) → D i (updV γ.1 i v) w2 →
        C w2 ∧ Closed l.toArray (L.setIfInBounds i true) ∧ ∀ k, k < n → (L.setIfInBounds i true).getD k false = true → D k (updV γ.1 i v) w2 := fun v w2 hc hb hd => by
      refine ⟨hc, hcl2, fun k hk hL' => ?_⟩
      by_cases e : k = i
      · subst e; exact hd
      · rw [getD_set_ne false (Ne.symm e)] at hL'
        have hw : Region.waitsFor .any l.toArray k i = false := by
          cases hx : Region.waitsFor .any l.toArray k i with
          | false => rfl
          | true =>
            have := waits_closed hcl hL' hx
            rw [hun] at this
            cases this
        refine hL k i _ v _ e hw ?_
        rcases hb with rfl | hb
        · exact hDs k hk hL'
        · exact hD i k _ _ _ hin e (hDs k hk hL') hb
    have upd : ∀ v, S i v → ∀ j, S j (updV γ.1 i v j) := fun v hv j => by
      by_cases e : j = i
      · subst e; rw [updV_self]; exact hv
      · rw [updV_ne _ _ e]; exact γ.2 j
    have keep : ∀ v j, L.getD j false = true → γ.1 j = updV γ.1 i v j := fun v j hj => by
      have : j ≠ i := fun e => by subst e; rw [hun] at hj; cases hj
      rw [updV_ne _ _ this]
    rcases key with ⟨k1, k2⟩ | ⟨k1, k2, k3⟩
    · obtain ⟨v, hv, hg⟩ := k2 w' hC' hwait
      refine ⟨⟨updV γ.1 i v, upd v hv⟩, keep v, .inl ⟨k1, ?_⟩⟩
      simp only [updV_self]
      exact gives_mono hg fun w2 ⟨h1, h2, h3⟩ => step v w2 h1 (.inr h2) h3
    · exact ⟨⟨updV γ.1 i undef, upd undef k2⟩, keep undef, .inr ⟨k1, updV_self _ _ _, step undef w' hC' (.inl rfl) (k3 w')⟩⟩
  · intro γ L w' hall ⟨hC', _, hDs⟩
    have key := (wpR_at γ.2 (l.take n) 0 a (h γ.1)).1
    have ez : (fun i => γ.1 (0 + i)) = γ.1 := funext fun i => by rw [Nat.zero_add]
    rw [ez] at key
    exact key w' hC' fun k hk => hDs k hk (hall k hk)
end
end Go.Proofs.Ytfnepbkgmopjcaa
