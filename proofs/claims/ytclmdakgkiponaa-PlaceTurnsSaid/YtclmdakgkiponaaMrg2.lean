/-
  A region that draws its order, whose values may hang on the order (addresses of what it makes): of each operation's value one states what it is like (S, of no world) and what the world then holds of it and of those it waits for (D, kept by what the others do: K).
  Two slices of the call's own beside each other: where the result of an append lies.
  An append leaves the slice that it was given as it was; the append in a region that draws its order.
  As XRegRel; what the world holds of a value is kept by those operations alone that it does not wait for.
  A region that draws its order, in which several operations write: the class of worlds hangs on which of them have come up (D), and on nothing else.
  A region that draws its order, whose values may hang on the order and on what a call makes of the world: of each operation's value one states what it is like (S), what the world then holds of it (D, kept by what the others do: K), and which operations have come up (C).
  Rows of bytes of any type compared; loaded, in regions whose values hang on their order.
  Regions whose values hang on their order: known values, and operations whose value is only known to be of a kind, with what the world holds of it.
  Lists of elements: a literal of one element; a struct's literal; one element that stands in a new block.
  Lists of elements: an append to a slice that is full: a row of its own.
  Lists of elements: a literal of two elements.
  A region that draws its order: of each operation's value one states what it is like (S); of the worlds what holds by which operations have come up, and by their values (C).
  Contracts of place over this translation.
  The laws' own calls: given, is, no, small, awake.
  Contracts of the document's place (casemateref15) over this translation: the same plain numbers.
-/
import Derived.Test.YtclmdakgkiponaaMrg1
import Derived.Deep.DeepAppendRoom
set_option linter.unusedVariables false
set_option linter.unusedSimpArgs false
set_option maxRecDepth 100000
namespace Go.Proofs.Ytclmdakgkiponaa
open Go.RowKit
section
variable {P : Program} {ops : Array Oper}
def updV (vs : Nat → Value) (i : Nat) (v : Value) : Nat → Value := fun j => if j = i then v else vs j
theorem updV_self (vs : Nat → Value) (i : Nat) (v : Value) : updV vs i v i = v := if_pos rfl
theorem updV_ne (vs : Nat → Value) {i j : Nat} (v : Value) (h : j ≠ i) : updV vs i v j = vs j := if_neg h
/-- The operations in the order of the text, the k-th first. -/
def wpR (P : Program) (ops : Array Oper) (S : Nat → Value → Prop) (D : Nat → (Nat → Value) → World → Prop) (K : Nat → (Nat → Value) → World → World → Prop) (C : World → Prop) (Q : (Nat → Value) → Act → Prop) : Nat → (Nat → Value) → List Oper → Act → Prop
  | _, vs, [], a => Q vs a
  | k, vs, o :: rest, a => ((Region.wanted o (yielded ops a.tmps) = true ∧ ∀ w, C w → (∀ j, Region.waitsFor .any ops k j = true → D j vs w) →
      ∃ v, S k v ∧ Gives P o a w v fun w' => C w' ∧ K k vs w w' ∧ D k (updV vs k v) w') ∨
      (Region.wanted o (yielded ops a.tmps) = false ∧ S k undef ∧ ∀ w, D k (updV vs k undef) w)) ∧ (S k (vs k) → wpR P ops S D K C Q (k + 1) vs rest (a.put o.dst (vs k)))
theorem wpR_at {S : Nat → Value → Prop} {D : Nat → (Nat → Value) → World → Prop} {K : Nat → (Nat → Value) → World → World → Prop} {C : World → Prop} {Qk : (Nat → Value) → Act → Prop} {vs : Nat → Value} (hS : ∀ j, S j (vs j)) : ∀ (l : List Oper) (k : Nat) (a : Act), wpR P ops S D K C Qk k vs l a →
    Qk vs (lexF l (fun i => vs (k + i)) l.length a) ∧ ∀ i o, l[i]? = some o →
      ((Region.wanted o (yielded ops (lexF l (fun i => vs (k + i)) i a).tmps) = true ∧ ∀ w, C w → (∀ j, Region.waitsFor .any ops (k + i) j = true → D j vs w) →
        ∃ v, S (k + i) v ∧ Gives P o (lexF l (fun i => vs (k + i)) i a) w v fun w' => C w' ∧ K (k + i) vs w w' ∧ D (k + i) (updV vs (k + i) v) w') ∨
      (Region.wanted o (yielded ops (lexF l (fun i => vs (k + i)) i a).tmps) = false ∧ S (k + i) undef ∧ ∀ w, D (k + i) (updV vs (k + i) undef) w))
  | [], k, a, h => ⟨h, fun i o hi => by simp at hi⟩
  | o :: l, k, a, h => by
    obtain ⟨h1, h2⟩ := h
    obtain ⟨hq, hs⟩ := wpR_at hS l (k + 1) _ (h2 (hS k))
    have e : (fun i => vs (k + 1 + i)) = fun i => vs (k + (i + 1)) := funext fun i => by rw [show k + 1 + i = k + (i + 1) by omega]
    rw [e] at hq hs
    refine ⟨?_, fun i o' hi => ?_⟩
    · rw [List.length_cons, lexF_cons]; exact hq
    · cases i with
      | zero =>
        simp only [List.getElem?_cons_zero, Option.some.injEq] at hi
        subst hi
        exact h1
      | succ i =>
        rw [lexF_cons, show k + (i + 1) = k + 1 + i by omega]
        exact hs i o' (by simpa using hi)
theorem waits_ready {L : Array Bool} {i j : Nat} (hr : i ∈ Region.ready .any ops L) (hw : Region.waitsFor .any ops i j = true) : L.getD j false = true := by
  obtain ⟨hun, o, ho, hall⟩ := mem_ready.1 hr
  obtain ⟨o2, ho2, e2, he2, hb2, hon⟩ := Region.waitsFor_spec hw
  obtain rfl : o = o2 := Option.some.inj (ho.symm.trans ho2)
  have h1 := hall e2 he2 hb2
  rw [hon] at h1
  exact h1
theorem waits_closed {L : Array Bool} {i j : Nat} (hc : Closed ops L) (hl : L.getD i false = true) (hw : Region.waitsFor .any ops i j = true) : L.getD j false = true := by
  obtain ⟨o2, ho2, e2, he2, hb2, hon⟩ := Region.waitsFor_spec hw
  have := hc i o2 ho2 hl e2 he2 hb2
  rw [hon] at this
  exact this
theorem wp_region_rel {id : Nat} {Q : Exit → Act → World → Prop} {C : World → Prop} {S : Nat → Value → Prop} {D : Nat → (Nat → Value) → World → Prop} {K : Nat → (Nat → Value) → World → World → Prop} {a : Act} {w : World} {l : List Oper} (n : Nat)
    (hm : P.follows .mixedOrders = true) (ht : tidy l.toArray = true) (hB : tailB l.toArray n = true)
    (v0 : Nat → Value) (h0 : ∀ j, S j (v0 j)) (hD : ∀ i j vs w w', i < n → j ≠ i → D j vs w → K i vs w w' → D j vs w')
    (hL : ∀ j i vs v w, j ≠ i → Region.waitsFor .any l.toArray j i = false → D j vs w → D j (updV vs i v) w)
    (hC : C w.drew)
    (h : ∀ vs : Nat → Value, wpR P l.toArray S D K C (fun vs a' => ∀ w', C w' → (∀ k, k < n → D k vs w') → wpList P l.toArray Q (l.drop n) a' w') 0 vs (l.take n) a) : (Code.region id l.toArray true).wp P Q a w := by
  refine region_core (Γ := {vs : Nat → Value // ∀ j, S j (vs j)}) (C := fun γ L w' => C w' ∧ Closed l.toArray L ∧ ∀ k, k < n → L.getD k false = true → D k γ.1 w') n hm ht hB ⟨v0, h0⟩
    ⟨hC, (fun j o _ hl => by rw [getD_replicate_false] at hl; cases hl), fun k _ hk => by rw [getD_replicate_false] at hk; cases hk⟩ (fun γ => γ.1) ?_ ?_
  · intro i o hi γ L w' hsz hr ⟨hC', hcl, hDs⟩
    have hin : i < n := by
      have := (List.getElem?_eq_some_iff.1 hi).1
      rw [List.length_take] at this; omega
    have hun := getD_both (mem_ready.1 hr).1
    have hcl2 := closed_set hcl hr
    have key := (wpR_at γ.2 (l.take n) 0 a (h γ.1)).2 i o hi
    simp only [Nat.zero_add] at key
    have hwait : ∀ j, Region.waitsFor .any l.toArray i j = true → D j γ.1 w' := fun j hj => by
      have h1 := waits_ready hr hj
      have hji : j < i := by
        obtain ⟨o2, ho2, e2, he2, hb2, hon⟩ := Region.waitsFor_spec hj
        have := tidy_edge ht ho2 e2 he2 hb2
        omega
      exact hDs j (by omega) h1
    have step : ∀ (v : Value) (w2 : World), C w2 → (w2 = w' ∨ K i γ.1 w' w2) → D i (updV γ.1 i v) w2 →
        C w2 ∧ Closed l.toArray (L.setIfInBounds i true) ∧ ∀ k, k < n → (L.setIfInBounds i true).getD k false = true → D k (updV γ.1 i v) w2 := fun v w2 hc hb hd => by
      refine ⟨hc, hcl2, fun k hk hL' => ?_⟩
      by_cases e : k = i
      · subst e; exact hd
      · rw [getD_set_ne false (Ne.symm e)] at hL'
        have hw : Region.waitsFor .any l.toArray k i = false := by
          cases hx : Region.waitsFor .any l.toArray k i with
          | false => rfl
          | true =>
            have := waits_closed hcl hL' hx
            rw [hun] at this
            cases this
        refine hL k i _ v _ e hw ?_
        rcases hb with rfl | hb
        · exact hDs k hk hL'
        · exact hD i k _ _ _ hin e (hDs k hk hL') hb
    have upd : ∀ v, S i v → ∀ j, S j (updV γ.1 i v j) := fun v hv j => by
      by_cases e : j = i
      · subst e; rw [updV_self]; exact hv
      · rw [updV_ne _ _ e]; exact γ.2 j
    have keep : ∀ v j, L.getD j false = true → γ.1 j = updV γ.1 i v j := fun v j hj => by
      have : j ≠ i := fun e => by subst e; rw [hun] at hj; cases hj
      rw [updV_ne _ _ this]
    rcases key with ⟨k1, k2⟩ | ⟨k1, k2, k3⟩
    · obtain ⟨v, hv, hg⟩ := k2 w' hC' hwait
      refine ⟨⟨updV γ.1 i v, upd v hv⟩, keep v, .inl ⟨k1, ?_⟩⟩
      simp only [updV_self]
      exact gives_mono hg fun w2 ⟨h1, h2, h3⟩ => step v w2 h1 (.inr h2) h3
    · exact ⟨⟨updV γ.1 i undef, upd undef k2⟩, keep undef, .inr ⟨k1, updV_self _ _ _, step undef w' hC' (.inl rfl) (k3 w')⟩⟩
  · intro γ L w' hall ⟨hC', _, hDs⟩
    have key := (wpR_at γ.2 (l.take n) 0 a (h γ.1)).1
    have ez : (fun i => γ.1 (0 + i)) = γ.1 := funext fun i => by rw [Nat.zero_add]
    rw [ez] at key
    exact key w' hC' fun k hk => hDs k hk (hall k hk)
end
end Go.Proofs.Ytclmdakgkiponaa
set_option maxRecDepth 100000
namespace Go.Proofs.Ytclmdakgkiponaa
open Go.ChangeShapes Go.WideShapes Go.ChangeAt Go.RowKit
section
variable {ops : Array Oper} {Q : Exit → Act → World → Prop} {a : Act} {w : World} {rest : List Oper} {dst : Option Tmp} {ty : TypeId} {pos : String} {after : Array Edge} {s x : Operand} {m c B B' : Nat} {v : Value} {l kk : List Nat} {S e : TypeId} {k : IntKind} {ad : Addr}
theorem nums_reads (hrd : Nums k w B' (some ad) kk) (_hk : kk.length = m) : ∀ j u, (nums k kk)[j]? = some u → w.cell? (ad.add j) = some u := fun j u hj => by
  have hjm : j < kk.length := by
    have := (List.getElem?_eq_some_iff.1 hj).1
    rwa [nums_length] at this
  obtain ⟨b, o, e', _, hr⟩ := hrd (by omega)
  obtain rfl : ad = ⟨b, o, none⟩ := Option.some.inj e'
  rw [nums_get k hjm] at hj
  rw [Addr.add_mid, hr j hjm]
  exact hj
theorem nums_oneCell (kk : List Nat) : ∀ u ∈ nums k kk, u.oneCell' = true := fun u hu => by
  obtain ⟨y, _, rfl⟩ := List.mem_map.1 hu
  rfl
/-- It lies where the slice lay, or anew. -/
theorem run_appN_where (E : Elt S e k) (hown : Own e k w B v l) (hrd : Nums k w B' (some ad) kk) (hk : kk.length = m) (hsz : l.length + m ≤ 1000000) {v' : Value} {w' : World}
    (hr : (Builtin.append_ #[S, S] ty #[v, .slice (some ad) m c]).run Try.prog w = .ok v' w') : v'.ownBlock = v.ownBlock ∨ v'.ownBlock = some w.heap.size := by
  obtain ⟨i, hi, hz, h1, h2⟩ := E.inf
  have hbytes : (l.length + m) * i.bytes ≤ 140737488355328 := Nat.le_trans (Nat.mul_le_mul hsz h2) (by omega)
  have hl1 : (nums k kk).length = m * i.size := by rw [nums_length, h1, Nat.mul_one, hk]
  rcases hown.2 with ⟨rfl, h0⟩ | ⟨g, cap, cur, rfl, hB, hg, hnc, hcm, hcs, ht⟩
  · by_cases hm : m = 0
    · subst hm
      have hn : kk = [] := List.eq_nil_of_length_eq_zero hk
      subst hn
      left
      have hrun : (Builtin.append_ #[S, S] ty #[.slice none 0 0, .slice (some ad) 0 c]).run Try.prog w = .ok (.slice none 0 0) w := by
        simp [Builtin.append_, run_underlying E.und, sizeOf, typeInfo, hi, Builtin.lenOf, Builtin.firstCells, loadCells, loadCellsFrom]
      rw [hrun] at hr
      cases hr
      rfl
    · right
      rw [h0] at hbytes hsz
      rw [Nat.zero_add] at hbytes
      have hrun := run_append_nil (P := Try.prog) w S ty e i (.int k 0) E.und hi hz ad m c (nums k kk) hl1 (nums_reads hrd hk) (by omega) (by omega) (by omega)
      rw [hrun] at hr
      cases hr
      rfl
  · rw [Nat.mul_one] at hcs ht
    by_cases hroom : l.length + m ≤ cap
    · left
      have hrun := run_append_room (P := Try.prog) w S ty e i E.und hi g l.length cap cur hg ad m c (nums k kk) hl1 (nums_reads hrd hk) (nums_oneCell kk) hroom (by rw [h1, Nat.mul_one, nums_length, hcs]; omega)
      rw [hrun] at hr
      cases hr
      rfl
    · right
      have hown' : w.ownsRow B e i.size (.slice (some ⟨g, 0, none⟩) l.length cap) l.length (nums k l) := by rw [h1]; exact hown
      have holds : ∀ j u, (nums k l)[j]? = some u → w.cell? ((⟨g, 0, none⟩ : Addr).add j) = some u := hown.cells (g := g) rfl
      have hrun := run_append_grow (P := Try.prog) w S ty e i (.int k 0) E.und hi hz ⟨g, 0, none⟩ l.length cap (nums k l) (by rw [nums_length, h1, Nat.mul_one]) holds ad m c (nums k kk) hl1 (nums_reads hrd hk) (by omega) (by omega) (growslice_fits (by omega) hbytes)
      rw [hrun] at hr
      cases hr
      rfl
theorem wappW {A : Option Addr} (E : Elt S e k) (hs : a.eval s = v) (hx : a.eval x = .slice A m c) (h0 : A = none → m = 0 ∧ c = 0) (hown : Own e k w B v l) (hrd : Nums k w B' A kk) (hk : kk.length = m) (hsz : l.length + m ≤ 1000000) (hB : B ≤ w.heap.size)
    (h : ∀ v' w', Own e k w' B v' (l ++ kk) → w.grownBy w' v.ownBlock → (v'.ownBlock = v.ownBlock ∨ v'.ownBlock = some w.heap.size) → wpList Try.prog ops Q rest (a.put dst v') w') :
    wpList Try.prog ops Q (⟨dst, .call { callee := .builtin .append, args := #[s, x], argTypes := #[S, S] }, ty, pos, after, none⟩ :: rest) a w := by
  cases A with
  | some ad =>
    obtain ⟨v', w', hr, h1, h2⟩ := run_appN (ty := ty) (c := c) E hown hrd hk hsz hB
    have h3 := run_appN_where E hown hrd hk hsz hr
    refine wpList_plain rfl fun K hK => ?_
    unfold Oper.wp execOp
    simp only [resolve, invoke, builtin, Sem.run_bind, Sem.run_pure, Result.andThen_ok, List.map_toArray, List.map_cons, List.map_nil, hs, hx, hr]
    exact hK _ _ (h v' w' h1 h2 h3)
  | none =>
    obtain ⟨rfl, rfl⟩ := h0 rfl
    obtain rfl := List.eq_nil_of_length_eq_zero hk
    rw [List.append_nil] at h
    exact wappN_none E hs hx hown (h v w hown ⟨rfl, rfl, rfl, Nat.le_refl _, fun _ _ _ => rfl⟩ (.inl rfl))
end
theorem Own.lower {e : TypeId} {k : IntKind} {w : World} {B B' : Nat} {v : Value} {l : List Nat} (h : Own e k w B v l) (hB : B' ≤ B) : Own e k w B' v l := by
  refine ⟨h.1, ?_⟩
  rcases h.2 with h' | ⟨g, cap, cur, hv, hb, hr⟩
  · exact .inl h'
  · exact .inr ⟨g, cap, cur, hv, Nat.le_trans hB hb, hr⟩
/-- They lie in rows of their own. -/
def Apart (v u : Value) : Prop := ∀ g, v.ownBlock = some g → u.ownBlock ≠ some g
theorem Apart.symm {v u : Value} (h : Apart v u) : Apart u v := fun g hu hv => h g hv hu
theorem Apart.nil (v : Value) : Apart v (.slice none 0 0) := fun g _ h => by cases h
theorem Own.keep {e : TypeId} {k : IntKind} {w w' : World} {B : Nat} {v u : Value} {l : List Nat} (h : Own e k w B v l) (hg : w.grownBy w' u.ownBlock) (hne : Apart v u) : Own e k w' B v l := by
  refine World.ownsRow.kept h hg ?_
  cases hv : v.ownBlock with
  | none => exact .inl rfl
  | some g => exact .inr (Ne.symm (hne g hv))
theorem Apart.app {e : TypeId} {k : IntKind} {w : World} {B : Nat} {v v' u : Value} {l : List Nat} (h : Apart v u) (hv : Own e k w B v l) (hw : v'.ownBlock = u.ownBlock ∨ v'.ownBlock = some w.heap.size) : Apart v v' := fun g hg => by
  rcases hw with hw | hw
  · rw [hw]; exact h g hg
  · rw [hw]
    intro e'
    have := (World.ownsRow.lt hv g hg).2
    rw [Option.some.inj e'] at this
    exact Nat.lt_irrefl _ this
theorem Blk.apart {w w' : World} {g : Nat} {t : TypeId} {cs : Array Value} {v : Value} (h : Blk w g t cs) (hg : w.grownBy w' v.ownBlock) (hne : v.ownBlock ≠ some g) : Blk w' g t cs :=
  (hg.block g h.lt fun e => hne e.symm).trans h
end Go.Proofs.Ytclmdakgkiponaa
set_option maxRecDepth 100000
namespace Go.Proofs.Ytclmdakgkiponaa
open Go.ChangeShapes Go.WideShapes Go.ChangeAt Go.RowKit
section
variable {a : Act} {w : World} {dst : Option Tmp} {ty : TypeId} {pos : String} {after : Array Edge} {gd : Option (Nat × Bool)} {s x : Operand} {m c B B' : Nat} {v : Value} {l kk : List Nat} {S e : TypeId} {k : IntKind} {ad : Addr}
/-- The slice ahead still holds its numbers, whether the append went into its row or into a new one. -/
theorem run_appN_old (E : Elt S e k) (hown : Own e k w B v l) (hrd : Nums k w B' (some ad) kk) (hk : kk.length = m) (hsz : l.length + m ≤ 1000000) {v' : Value} {w' : World}
    (hr : (Builtin.append_ #[S, S] ty #[v, .slice (some ad) m c]).run Try.prog w = .ok v' w') (hown' : Own e k w' B v' (l ++ kk)) : Own e k w' B v l := by
  obtain ⟨i, hi, hz, h1, h2⟩ := E.inf
  have hbytes : (l.length + m) * i.bytes ≤ 140737488355328 := Nat.le_trans (Nat.mul_le_mul hsz h2) (by omega)
  have hl1 : (nums k kk).length = m * i.size := by rw [nums_length, h1, Nat.mul_one, hk]
  rcases hown.2 with ⟨rfl, h0⟩ | ⟨g, cap, cur, rfl, hB, hg, hnc, hcm, hcs, ht⟩
  · rw [List.eq_nil_of_length_eq_zero h0]
    exact Own.nil
  · rw [Nat.mul_one] at hcs ht
    by_cases hroom : l.length + m ≤ cap
    · have hrun := run_append_room (P := Try.prog) w S ty e i E.und hi g l.length cap cur hg ad m c (nums k kk) hl1 (nums_reads hrd hk) (nums_oneCell kk) hroom (by rw [h1, Nat.mul_one, nums_length, hcs]; omega)
      rw [hrun] at hr
      cases hr
      rcases hown'.2 with ⟨e', _⟩ | ⟨g2, cap2, cur2, hv2, hB2, hg2, hnc2, hcm2, hcs2, ht2⟩
      · cases e'
      · simp only [Value.slice.injEq, Option.some.injEq, Addr.mk.injEq, and_true] at hv2
        obtain ⟨rfl, _, rfl⟩ := hv2
        refine ⟨hown.1, .inr ⟨_, _, cur2, rfl, hB, hg2, hnc, hcm, hcs2, ?_⟩⟩
        rw [Nat.mul_one] at ht2 ⊢
        have h3 : (cur2.toList.take (l ++ kk).length).take l.length = (nums k (l ++ kk)).take l.length := by rw [ht2]
        rw [List.take_take, Nat.min_eq_left (by rw [List.length_append]; omega), nums_append, List.take_left' (nums_length k l)] at h3
        exact h3
    · have holds : ∀ j u, (nums k l)[j]? = some u → w.cell? ((⟨g, 0, none⟩ : Addr).add j) = some u := hown.cells (g := g) rfl
      have hrun := run_append_grow (P := Try.prog) w S ty e i (.int k 0) E.und hi hz ⟨g, 0, none⟩ l.length cap (nums k l) (by rw [nums_length, h1, Nat.mul_one]) holds ad m c (nums k kk) hl1 (nums_reads hrd hk) (by omega) (by omega) (growslice_fits (by omega) hbytes)
      rw [hrun] at hr
      cases hr
      exact hown.alloc _
/-- An append, in a region that draws its order. -/
theorem gives_app {A : Option Addr} (E : Elt S e k) (hs : a.eval s = v) (hx : a.eval x = .slice A m c) (h0 : A = none → m = 0 ∧ c = 0) (hown : Own e k w B v l) (hrd : Nums k w B' A kk) (hk : kk.length = m) (hsz : l.length + m ≤ 1000000) (hB : B ≤ w.heap.size) :
    ∃ v' w', Own e k w' B v' (l ++ kk) ∧ Own e k w' B v l ∧ w.grownBy w' v.ownBlock ∧ (v'.ownBlock = v.ownBlock ∨ v'.ownBlock = some w.heap.size) ∧
      ∀ R : World → Prop, R w' → Gives Try.prog ⟨dst, .call { callee := .builtin .append, args := #[s, x], argTypes := #[S, S] }, ty, pos, after, gd⟩ a w v' R := by
  cases A with
  | some ad =>
    obtain ⟨v', w', hr, h1, h2⟩ := run_appN (ty := ty) (c := c) E hown hrd hk hsz hB
    refine ⟨v', w', h1, run_appN_old E hown hrd hk hsz hr h1, h2, run_appN_where E hown hrd hk hsz hr, fun R hR => gives_value ?_ hR⟩
    unfold execOp
    simp only [resolve, invoke, builtin, Sem.run_bind, Sem.run_pure, Result.andThen_ok, List.map_toArray, List.map_cons, List.map_nil, hs, hx, hr]
  | none =>
    obtain ⟨rfl, rfl⟩ := h0 rfl
    obtain rfl := List.eq_nil_of_length_eq_zero hk
    refine ⟨v, w, by rw [List.append_nil]; exact hown, hown, ⟨rfl, rfl, rfl, Nat.le_refl _, fun _ _ _ => rfl⟩, .inl rfl, fun R hR => gives_value ?_ hR⟩
    have hr : (Builtin.append_ #[S, S] ty #[v, .slice none 0 0]).run Try.prog w = .ok v w := by
      obtain ⟨i, hi, hz, h1, h2⟩ := E.inf
      exact run_append_owned_none (P := Try.prog) w B S ty e i 1 E.und hi v l.length _ hown
    unfold execOp
    simp only [resolve, invoke, builtin, Sem.run_bind, Sem.run_pure, Result.andThen_ok, List.map_toArray, List.map_cons, List.map_nil, hs, hx, hr]
theorem gives_appS {A : Option Addr} {T : Value → Prop} {R : Value → World → Prop} (E : Elt S e k) (hs : a.eval s = v) (hx : a.eval x = .slice A m c) (h0 : A = none → m = 0 ∧ c = 0) (hown : Own e k w B v l) (hrd : Nums k w B' A kk) (hk : kk.length = m) (hsz : l.length + m ≤ 1000000) (hB : B ≤ w.heap.size)
    (h : ∀ v' w', Own e k w' B v' (l ++ kk) → Own e k w' B v l → w.grownBy w' v.ownBlock → T v' ∧ R v' w') :
    ∃ v', T v' ∧ Gives Try.prog ⟨dst, .call { callee := .builtin .append, args := #[s, x], argTypes := #[S, S] }, ty, pos, after, gd⟩ a w v' (R v') := by
  obtain ⟨v', w', h1, h2, h3, _, h5⟩ := gives_app (dst := dst) (ty := ty) (pos := pos) (after := after) (gd := gd) E hs hx h0 hown hrd hk hsz hB
  obtain ⟨h6, h7⟩ := h v' w' h1 h2 h3
  exact ⟨v', h6, h5 _ h7⟩
end
end Go.Proofs.Ytclmdakgkiponaa
set_option maxRecDepth 100000
namespace Go.Proofs.Ytclmdakgkiponaa
open Go.ChangeShapes Go.WideShapes Go.ChangeAt Go.RowKit
/-- An append to a slice leaves any other slice of the call's own that is no longer as it was, even in the same row. -/
theorem Own.beside {e : TypeId} {k : IntKind} {w w' : World} {B B2 : Nat} {v u : Value} {l m : List Nat} (h : Own e k w B v l) (hu : Own e k w B2 u m) (hg : w.grownBy w' u.ownBlock) (hu' : Own e k w' B2 u m) (hlm : l.length ≤ m.length) : Own e k w' B v l := by
  by_cases hne : Apart v u
  · exact h.keep hg hne
  · rcases h.2 with ⟨rfl, h0⟩ | ⟨g, cap, cur, rfl, hB, hgc, hnc, hcm, hcs, ht⟩
    · rw [List.eq_nil_of_length_eq_zero h0]
      exact Own.nil
    · rcases hu.2 with ⟨rfl, _⟩ | ⟨g2, cap2, cur2, rfl, hB2, hgc2, hnc2, hcm2, hcs2, ht2⟩
      · exact absurd (Apart.nil _) hne
      · have hgg : g2 = g := by
          by_cases e' : g2 = g
          · exact e'
          · exact absurd (fun x hx hx2 => e' (by
              have h1 : g = x := Option.some.inj hx
              have h2 : g2 = x := Option.some.inj hx2
              rw [h1, h2])) hne
        subst hgg
        rw [hgc] at hgc2
        cases hgc2
        rcases hu'.2 with ⟨e', _⟩ | ⟨g3, cap3, cur3, hv3, hB3, hgc3, hnc3, hcm3, hcs3, ht3⟩
        · cases e'
        · simp only [Value.slice.injEq, Option.some.injEq, Addr.mk.injEq, and_true] at hv3
          obtain ⟨rfl, _, rfl⟩ := hv3
          have hcap : cap2 = cap := by omega
          subst hcap
          refine ⟨h.1, .inr ⟨_, _, cur3, rfl, hB, hgc3, hnc, hcm, hcs3, ?_⟩⟩
          rw [Nat.mul_one] at ht ht2 ht3 ⊢
          have h3 : (cur3.toList.take m.length).take l.length = (cur.toList.take m.length).take l.length := by rw [ht3, ht2]
          rw [List.take_take, List.take_take, Nat.min_eq_left hlm, ht] at h3
          exact h3
section
variable {P : Program} {ops : Array Oper}
theorem wp_region_rel2 {id : Nat} {Q : Exit → Act → World → Prop} {C : World → Prop} {S : Nat → Value → Prop} {D : Nat → (Nat → Value) → World → Prop} {K : Nat → (Nat → Value) → World → World → Prop} {a : Act} {w : World} {l : List Oper} (n : Nat)
    (hm : P.follows .mixedOrders = true) (ht : tidy l.toArray = true) (hB : tailB l.toArray n = true)
    (v0 : Nat → Value) (h0 : ∀ j, S j (v0 j)) (hD : ∀ i j vs w w', i < n → j ≠ i → Region.waitsFor .any l.toArray j i = false → D j vs w → K i vs w w' → D j vs w')
    (hL : ∀ j i vs v w, j ≠ i → Region.waitsFor .any l.toArray j i = false → D j vs w → D j (updV vs i v) w)
    (hC : C w.drew)
    (h : ∀ vs : Nat → Value, wpR P l.toArray S D K C (fun vs a' => ∀ w', C w' → (∀ k, k < n → D k vs w') → wpList P l.toArray Q (l.drop n) a' w') 0 vs (l.take n) a) : (Code.region id l.toArray true).wp P Q a w := by
  refine region_core (Γ := {vs : Nat → Value // ∀ j, S j (vs j)}) (C := fun γ L w' => C w' ∧ Closed l.toArray L ∧ ∀ k, k < n → L.getD k false = true → D k γ.1 w') n hm ht hB ⟨v0, h0⟩
    ⟨hC, (fun j o _ hl => by rw [getD_replicate_false] at hl; cases hl), fun k _ hk => by rw [getD_replicate_false] at hk; cases hk⟩ (fun γ => γ.1) ?_ ?_
  · intro i o hi γ L w' hsz hr ⟨hC', hcl, hDs⟩
    have hin : i < n := by
      have := (List.getElem?_eq_some_iff.1 hi).1
      rw [List.length_take] at this; omega
    have hun := getD_both (mem_ready.1 hr).1
    have hcl2 := closed_set hcl hr
    have key := (wpR_at γ.2 (l.take n) 0 a (h γ.1)).2 i o hi
    simp only [Nat.zero_add] at key
    have hwait : ∀ j, Region.waitsFor .any l.toArray i j = true → D j γ.1 w' := fun j hj => by
      have h1 := waits_ready hr hj
      have hji : j < i := by
        obtain ⟨o2, ho2, e2, he2, hb2, hon⟩ := Region.waitsFor_spec hj
        have := tidy_edge ht ho2 e2 he2 hb2
        omega
      exact hDs j (by omega) h1
    have step : ∀ (v : Value) (w2 : World), C w2 → (w2 = w' ∨ K i γ.1 w' w2) → D i (updV γ.1 i v) w2 →
        C w2 ∧ Closed l.toArray (L.setIfInBounds i true) ∧ ∀ k, k < n → (L.setIfInBounds i true).getD k false = true → D k (updV γ.1 i v) w2 := fun v w2 hc hb hd => by
      refine ⟨hc, hcl2, fun k hk hL' => ?_⟩
      by_cases e : k = i
      · subst e; exact hd
      · rw [getD_set_ne false (Ne.symm e)] at hL'
        have hw : Region.waitsFor .any l.toArray k i = false := by
          cases hx : Region.waitsFor .any l.toArray k i with
          | false => rfl
          | true =>
            have := waits_closed hcl hL' hx
            rw [hun] at this
            cases this
        refine hL k i _ v _ e hw ?_
        rcases hb with rfl | hb
        · exact hDs k hk hL'
        · exact hD i k _ _ _ hin e hw (hDs k hk hL') hb
    have upd : ∀ v, S i v → ∀ j, S j (updV γ.1 i v j) := fun v hv j => by
      by_cases e : j = i
      · subst e; rw [updV_self]; exact hv
      · rw [updV_ne _ _ e]; exact γ.2 j
    have keep : ∀ v j, L.getD j false = true → γ.1 j = updV γ.1 i v j := fun v j hj => by
      have : j ≠ i := fun e => by subst e; rw [hun] at hj; cases hj
      rw [updV_ne _ _ this]
    rcases key with ⟨k1, k2⟩ | ⟨k1, k2, k3⟩
    · obtain ⟨v, hv, hg⟩ := k2 w' hC' hwait
      refine ⟨⟨updV γ.1 i v, upd v hv⟩, keep v, .inl ⟨k1, ?_⟩⟩
      simp only [updV_self]
      exact gives_mono hg fun w2 ⟨h1, h2, h3⟩ => step v w2 h1 (.inr h2) h3
    · exact ⟨⟨updV γ.1 i undef, upd undef k2⟩, keep undef, .inr ⟨k1, updV_self _ _ _, step undef w' hC' (.inl rfl) (k3 w')⟩⟩
  · intro γ L w' hall ⟨hC', _, hDs⟩
    have key := (wpR_at γ.2 (l.take n) 0 a (h γ.1)).1
    have ez : (fun i => γ.1 (0 + i)) = γ.1 := funext fun i => by rw [Nat.zero_add]
    rw [ez] at key
    exact key w' hC' fun k hk => hDs k hk (hall k hk)
end
end Go.Proofs.Ytclmdakgkiponaa
set_option maxRecDepth 100000
namespace Go.Proofs.Ytclmdakgkiponaa
section
variable {P : Program} {ops : Array Oper}
def upB (d : Nat → Bool) (k : Nat) : Nat → Bool := fun j => if j = k then true else d j
/-- The operations in the order of the text, the k-th first; st tells which of them write. -/
def wpM (P : Program) (ops : Array Oper) (st : Nat → Bool) (D : (Nat → Bool) → World → Prop) (Q : Act → Prop) : Nat → List Oper → Act → Prop
  | _, [], a => Q a
  | k, o :: rest, a => ∃ v, ((Region.wanted o (yielded ops a.tmps) = true ∧ ((st k = true ∧ ∀ d w, d k = false → D d w → Gives P o a w v (D (upB d k))) ∨ (st k = false ∧ ∀ d w, D d w → Gives P o a w v (D d)))) ∨
      (Region.wanted o (yielded ops a.tmps) = false ∧ st k = false ∧ v = undef)) ∧ wpM P ops st D Q (k + 1) rest (a.put o.dst v)
section
variable {D : (Nat → Bool) → World → Prop} {Qk : Act → Prop} {o : Oper} {rest : List Oper} {a : Act} {v : Value} {k : Nat} {st : Nat → Bool}
theorem wpM_nil (h : Qk a) : wpM P ops st D Qk k [] a := h
theorem wpM_val (hk : st k = false) (hw : Region.wanted o (yielded ops a.tmps) = true) (h1 : ∀ d w, D d w → Gives P o a w v (D d)) (h2 : wpM P ops st D Qk (k + 1) rest (a.put o.dst v)) : wpM P ops st D Qk k (o :: rest) a :=
  ⟨v, .inl ⟨hw, .inr ⟨hk, h1⟩⟩, h2⟩
theorem wpM_put (hk : st k = true) (hw : Region.wanted o (yielded ops a.tmps) = true) (h1 : ∀ d w, d k = false → D d w → Gives P o a w v (D (upB d k))) (h2 : wpM P ops st D Qk (k + 1) rest (a.put o.dst v)) : wpM P ops st D Qk k (o :: rest) a :=
  ⟨v, .inl ⟨hw, .inl ⟨hk, h1⟩⟩, h2⟩
end
theorem wpM_vals {st : Nat → Bool} {D : (Nat → Bool) → World → Prop} {Qk : Act → Prop} : ∀ (l : List Oper) (k : Nat) (a : Act), wpM P ops st D Qk k l a → ∃ vals : Nat → Value, Qk (lexF l vals l.length a) ∧
    ∀ i o, l[i]? = some o → ((Region.wanted o (yielded ops (lexF l vals i a).tmps) = true ∧ ((st (k + i) = true ∧ ∀ d w, d (k + i) = false → D d w → Gives P o (lexF l vals i a) w (vals i) (D (upB d (k + i)))) ∨ (st (k + i) = false ∧ ∀ d w, D d w → Gives P o (lexF l vals i a) w (vals i) (D d)))) ∨
      (Region.wanted o (yielded ops (lexF l vals i a).tmps) = false ∧ st (k + i) = false ∧ vals i = undef))
  | [], _, a, h => ⟨fun _ => undef, h, fun i o hi => by simp at hi⟩
  | o :: l, k, a, h => by
    obtain ⟨v, h1, h2⟩ := h
    obtain ⟨vals, hq, hs⟩ := wpM_vals l (k + 1) _ h2
    refine ⟨fun j => match j with | 0 => v | j + 1 => vals j, ?_, fun i o' hi => ?_⟩
    · rw [List.length_cons, lexF_cons]; exact hq
    · cases i with
      | zero =>
        simp only [List.getElem?_cons_zero, Option.some.injEq] at hi
        subst hi
        exact h1
      | succ i =>
        rw [lexF_cons, show k + (i + 1) = k + 1 + i by omega]
        exact hs i o' (by simpa using hi)
theorem gives_imp {o : Oper} {a : Act} {w : World} {v : Value} {R R' : World → Prop} (h : Gives P o a w v R) (hr : ∀ w', R w' → R' w') : Gives P o a w v R' := by
  unfold Gives at *
  generalize (execOp a.eval o).run P w = r at *
  cases r with
  | ok n w' =>
    cases n <;> simp only at h ⊢
    case value u => exact ⟨h.1, hr _ h.2⟩
    case skip => exact ⟨h.1, hr _ h.2⟩
    case enter f args => exact h.mono fun e w'' ⟨he, hR⟩ => ⟨he, hr _ hR⟩
  | halt x w' => exact h
theorem wp_region_set {id : Nat} {Q : Exit → Act → World → Prop} {D : (Nat → Bool) → World → Prop} {a : Act} {w : World} {l : List Oper} (st : Nat → Bool) (n : Nat) (hst : ∀ j, st j = true → j < n) (hm : P.follows .mixedOrders = true) (ht : tidy l.toArray = true) (hB : tailB l.toArray n = true)
    (hirr : ∀ d d' w, (∀ j, st j = true → d j = d' j) → D d w → D d' w) (hC : D (fun _ => false) w.drew)
    (h : wpM P l.toArray st D (fun a' => ∀ w', D (fun _ => true) w' → wpList P l.toArray Q (l.drop n) a' w') 0 (l.take n) a) : (Code.region id l.toArray true).wp P Q a w := by
  obtain ⟨vals, hq, hs⟩ := wpM_vals _ _ _ h
  refine region_core (Γ := Unit) (C := fun _ L w => D (fun j => L.getD j false) w) n hm ht hB () (hirr _ _ _ (fun j _ => (getD_replicate_false _ j).symm) hC) (fun _ => vals) (fun i o hi γ L w hsz hr hC' => ⟨(), fun _ _ => rfl, ?_⟩)
    (fun _ L w' hall hC' => hq w' (hirr _ _ _ (fun j hj => hall j (hst j hj)) hC'))
  have hun := getD_both (mem_ready.1 hr).1
  have hlt : i < L.size := by
    obtain ⟨o', ho', _⟩ := (mem_ready.1 hr).2
    have := (Array.getElem?_eq_some_iff.1 ho').1
    simp at this; omega
  rcases hs i o hi with ⟨h1, ⟨h2, h3⟩ | ⟨h2, h3⟩⟩ | ⟨h1, h2, h3⟩
  · rw [Nat.zero_add] at h2 h3
    refine .inl ⟨h1, gives_imp (h3 _ w hun hC') fun w' hw' => hirr _ _ _ (fun j _ => ?_) hw'⟩
    unfold upB
    by_cases e : j = i
    · subst e; rw [if_pos rfl]; simp [hlt]
    · rw [if_neg e, getD_set_ne false (Ne.symm e)]
  · rw [Nat.zero_add] at h2
    refine .inl ⟨h1, gives_imp (h3 _ w hC') fun w' hw' => hirr _ _ _ (fun j hj => ?_) hw'⟩
    have e : j ≠ i := fun e => by subst e; rw [h2] at hj; cases hj
    rw [getD_set_ne false (Ne.symm e)]
  · rw [Nat.zero_add] at h2
    refine .inr ⟨h1, h3, hirr _ _ _ (fun j hj => ?_) hC'⟩
    have e : j ≠ i := fun e => by subst e; rw [h2] at hj; cases hj
    rw [getD_set_ne false (Ne.symm e)]
end
end Go.Proofs.Ytclmdakgkiponaa
set_option maxRecDepth 100000
namespace Go.Proofs.Ytclmdakgkiponaa
open Go.RowKit
/-- One operation, carried out in the world w; R holds of what it yields and of the world behind it. -/
def GivesE (P : Program) (o : Oper) (a : Act) (w : World) (R : Value → World → Prop) : Prop :=
  match (execOp a.eval o).run P w with
  | .ok (.value u) w' => R u w'
  | .ok .skip w' => R undef w'
  | .ok (.enter f args) w' => Calls P f args w' fun e w'' => ∃ v, e = .returned v ∧ R v w''
  | _ => False
theorem wp_of_givesE {P : Program} {o : Oper} {a : Act} {w : World} {R : Value → World → Prop} {K : Act → World → Prop} {Q : Exit → Act → World → Prop}
    (h : GivesE P o a w R) (hK : ∀ v w', R v w' → K (a.put o.dst v) w') : o.wp P a w K Q := by
  unfold GivesE at h
  unfold Oper.wp
  generalize (execOp a.eval o).run P w = r at *
  cases r with
  | ok n w' =>
    cases n <;> simp only at h <;> simp only [Oper.upon]
    case value u => exact hK _ _ h
    case skip => exact hK _ _ h
    case enter f args => exact h.mono fun e w'' ⟨v, he, hr⟩ => by subst he; exact hK _ _ hr
  | halt x w' => cases h
theorem givesE_mono {P : Program} {o : Oper} {a : Act} {w : World} {R R' : Value → World → Prop} (h : GivesE P o a w R) (hr : ∀ v w', R v w' → R' v w') : GivesE P o a w R' := by
  unfold GivesE at *
  generalize (execOp a.eval o).run P w = r at *
  cases r with
  | ok n w' =>
    cases n <;> simp only at h ⊢
    case value u => exact hr _ _ h
    case skip => exact hr _ _ h
    case enter f args => exact h.mono fun e w'' ⟨v, he, hR⟩ => ⟨v, he, hr _ _ hR⟩
  | halt x w' => exact h
section
variable {P : Program} {ops : Array Oper}
/-- The head of a region: the first n operations, in whatever order; behind them the tail. -/
theorem head_anyE {Γ : Type} {n g : Nat} {Q : Exit → Act → World → Prop} {vals : Γ → Nat → Value} {C : Γ → Array Bool → World → Prop} {a0 : Act} (ht : tidy ops = true) (hn : n ≤ ops.size)
    (hstep : ∀ k o, k < n → ops[k]? = some o → ∀ γ L w, L.size = ops.size → Closed ops L → k ∈ Region.ready .any ops L → C γ L w →
      ((Region.wanted o (yielded ops (fr ops (vals γ) (fun j => decide (j < k)) ops.size a0).tmps) = true ∧ GivesE P o (fr ops (vals γ) (fun j => decide (j < k)) ops.size a0) w (fun v w' => ∃ γ', (∀ j, L.getD j false = true → vals γ j = vals γ' j) ∧ vals γ' k = v ∧ C γ' (L.setIfInBounds k true) w')) ∨
      (Region.wanted o (yielded ops (fr ops (vals γ) (fun j => decide (j < k)) ops.size a0).tmps) = false ∧ ∃ γ', (∀ j, L.getD j false = true → vals γ j = vals γ' j) ∧ vals γ' k = undef ∧ C γ' (L.setIfInBounds k true) w)))
    (hsink : ∀ L, L.size = ops.size → Closed ops L → (∀ t, n ≤ t → t < ops.size → L.getD t true = false) → ∀ i, i < n → L.getD i true = false → ∀ t ∈ Region.ready .any ops L, t < n)
    (htail : ∀ γ L w, L.size = ops.size → (∀ i, i < n → L.getD i false = true) → (∀ t, n ≤ t → t < ops.size → L.getD t true = false) → C γ L w →
      wpAny P .any ops Q g L (fr ops (vals γ) (fun j => decide (j < n)) ops.size a0) w) :
    ∀ (f : Nat) (γ : Γ) (L : Array Bool) (w : World), L.size = ops.size → Closed ops L → (∀ t, n ≤ t → t < ops.size → L.getD t true = false) → cnt n L = f → C γ L w →
      wpAny P .any ops Q (f + g) L (fr ops (vals γ) (fun j => L.getD j false) ops.size a0) w
  | 0, γ, L, w, hs, hcl, htl, hc, hC => by
    have hall : ∀ i, i < n → L.getD i false = true := fun i hi => by
      have h1 : ∀ j ∈ List.range n, ¬ (!L.getD j true) = true := List.countP_eq_zero.1 hc
      have h2 := h1 i (List.mem_range.2 hi)
      exact getD_up (by omega) (by simpa using h2)
    rw [Nat.zero_add, fr_congr (l' := fun j => decide (j < n)) fun j hj => ?_]
    · exact htail γ L w hs hall htl hC
    · by_cases hjn : j < n
      · rw [hall j hjn]; simp [hjn]
      · rw [getD_both (htl j (by omega) hj)]; simp [hjn]
  | f + 1, γ, L, w, hs, hcl, htl, hc, hC => by
    rw [show f + 1 + g = (f + g) + 1 by omega]
    -- the least that has not come up may come up
    have hex : ∃ i, i < n ∧ L.getD i true = false := by
      have hpos : 0 < (List.range n).countP fun i => !L.getD i true := by unfold cnt at hc; omega
      obtain ⟨i, hi, h1⟩ := List.countP_pos_iff.1 hpos
      exact ⟨i, List.mem_range.1 hi, by simpa using h1⟩
    have hready : ∃ i, i ∈ Region.ready .any ops L := by
      obtain ⟨i, hi, hun⟩ := hex
      induction i using Nat.strongRecOn with
      | _ i ih =>
        by_cases hless : ∃ j, j < i ∧ L.getD j true = false
        · obtain ⟨j, hj, hjun⟩ := hless
          exact ih j hj (by omega) hjun
        · have hio : i < ops.size := by omega
          refine ⟨i, mem_ready.2 ⟨hun, ops[i], Array.getElem?_eq_getElem hio, fun e he hb => ?_⟩⟩
          have hlt := tidy_edge ht (Array.getElem?_eq_getElem hio) e he hb
          refine getD_up (by omega) ?_
          cases h0 : L.getD e.on true with
          | true => rfl
          | false => exact absurd ⟨e.on, hlt, h0⟩ hless
    obtain ⟨i0, hi0, hun0⟩ := hex
    refine ⟨fun h0 => (by obtain ⟨i, hi⟩ := hready; rw [h0] at hi; cases hi), fun i hi => ?_⟩
    have hin : i < n := hsink L hs hcl htl i0 hi0 hun0 i hi
    obtain ⟨hun, o, ho, _⟩ := mem_ready.1 hi
    have hio : i < ops.size := by omega
    obtain ⟨hex1, hex2⟩ := exec_same (vals := vals γ) (n := ops.size) (a := a0) ht ho hcl hi
    have hst := hstep i o hin ho γ L w hs hcl hi hC
    have hnext : ∀ γ' w', (∀ j, L.getD j false = true → vals γ j = vals γ' j) → C γ' (L.setIfInBounds i true) w' → wpAny P .any ops Q (f + g) (L.setIfInBounds i true) ((fr ops (vals γ) (fun j => L.getD j false) ops.size a0).put o.dst (vals γ' i)) w' := fun γ' w' hag hC' => by
      have ih := head_anyE (g := g) (Q := Q) ht hn hstep hsink htail f γ' (L.setIfInBounds i true) w' (by simpa using hs) (closed_set hcl hi) (fun t h1 h2 => by rw [getD_set_ne true (by omega)]; exact htl t h1 h2)
        (by
          have h1 : cnt n (L.setIfInBounds i true) + 1 = cnt n L := by
            refine countP_one (i := i) (by simpa using hun) ?_ (fun j hj => by rw [getD_set_ne true (Ne.symm hj)]) List.nodup_range (List.mem_range.2 hin)
            simp [show i < L.size by omega]
          omega) hC'
      rw [fr_congr (l' := fun j => L.getD j false || j == i) fun j _ => ?_, fr_set ht (getD_both hun) hio, ← fr_vals fun j _ hj => hag j hj] at ih
      · unfold dstAt at ih; rw [ho] at ih; exact ih
      · by_cases e : j = i
        · subst e; simp [show j < L.size by omega]
        · have : (j == i) = false := by simpa using e
          rw [getD_set_ne false (Ne.symm e), this, Bool.or_false]
    unfold wpOp
    simp only [ho]
    rcases hst with ⟨hw, hg⟩ | ⟨hw, γ', hag, hv, hC'⟩
    · rw [hex2, if_pos hw]
      refine .inl (wp_of_givesE (R := fun v w' => ∃ γ', (∀ j, L.getD j false = true → vals γ j = vals γ' j) ∧ vals γ' i = v ∧ C γ' (L.setIfInBounds i true) w') ?_ fun v w' ⟨γ', hag, hv, hC'⟩ => by rw [← hv]; exact hnext γ' w' hag hC')
      unfold GivesE at hg ⊢
      rw [hex1]; exact hg
    · rw [hex2, hw, if_neg (by simp)]
      rw [← hv]
      exact hnext γ' w hag hC'

theorem region_coreE {id : Nat} {Q : Exit → Act → World → Prop} {Γ : Type} {C : Γ → Array Bool → World → Prop} {a : Act} {w : World} {l : List Oper} (n : Nat) (hm : P.follows .mixedOrders = true) (ht : tidy l.toArray = true) (hB : tailB l.toArray n = true)
    (γ0 : Γ) (hC : C γ0 (Array.replicate l.length false) w.drew) (vals : Γ → Nat → Value)
    (hs : ∀ i o, (l.take n)[i]? = some o → ∀ γ L w, L.size = l.length → i ∈ Region.ready .any l.toArray L → C γ L w →
      ((Region.wanted o (yielded l.toArray (lexF (l.take n) (vals γ) i a).tmps) = true ∧ GivesE P o (lexF (l.take n) (vals γ) i a) w (fun v w' => ∃ γ', (∀ j, L.getD j false = true → vals γ j = vals γ' j) ∧ vals γ' i = v ∧ C γ' (L.setIfInBounds i true) w')) ∨
      (Region.wanted o (yielded l.toArray (lexF (l.take n) (vals γ) i a).tmps) = false ∧ ∃ γ', (∀ j, L.getD j false = true → vals γ j = vals γ' j) ∧ vals γ' i = undef ∧ C γ' (L.setIfInBounds i true) w)))
    (hq : ∀ γ L w', (∀ i, i < n → L.getD i false = true) → C γ L w' → wpList P l.toArray Q (l.drop n) (lexF (l.take n) (vals γ) (l.take n).length a) w') : (Code.region id l.toArray true).wp P Q a w := by
  refine wp_region_any hm ?_
  have hn : n ≤ l.toArray.size := by
    simp only [tailB, Bool.or_eq_true, Bool.and_eq_true, decide_eq_true_eq] at hB
    rcases hB with h | h <;> omega
  have hlen : (l.take n).length = n := by rw [List.length_take]; simp at hn; omega
  simp only [hlen] at hq
  have hfr : ∀ (γ : Γ) i, i ≤ n → lexF (l.take n) (vals γ) i a = fr l.toArray (vals γ) (fun j => decide (j < i)) l.toArray.size a := fun γ i hi => by
    have := lexF_fr (ops := l.toArray) (vals := vals γ) (a := a) hn i hi
    simpa using this
  have H := head_anyE (P := P) (ops := l.toArray) (n := n) (g := l.toArray.size - n) (Q := Q) (vals := vals) (C := C) (a0 := a) ht hn
    (fun k o hk ho γ L w' hsz _ hr hC' => by
      have hko : (l.take n)[k]? = some o := by rw [List.getElem?_take_of_lt hk]; simpa using ho
      have := hs k o hko γ L w' (by simpa using hsz) hr hC'
      rwa [hfr γ k (by omega)] at this)
    (fun L hL hcl htl i hi hun t hr => by
      obtain ⟨hunt, o, ho, _⟩ := mem_ready.1 hr
      have hto : t < l.toArray.size := (Array.getElem?_eq_some_iff.1 ho).1
      simp only [tailB, Bool.or_eq_true, Bool.and_eq_true, decide_eq_true_eq] at hB
      rcases hB with hB | ⟨⟨⟨hB1, hB2⟩, hB3⟩, _⟩
      · omega
      · rcases Nat.lt_or_ge t n with h | h
        · exact h
        · exact absurd hr (tail_waits hB2 hB3 hB1 ⟨hL, hcl, htl⟩ _ i rfl hi hun t h))
    (fun γ L w' hL hall htl hC' => by
      rw [← hfr γ n (Nat.le_refl n)]
      have hlist := hq γ L w' hall hC'
      have hLe : L = tailL n (l.toArray.size - n) := by
        apply Array.ext_getElem?
        intro j
        unfold tailL
        rw [show ((List.replicate n true ++ List.replicate (l.toArray.size - n) false).toArray)[j]? = (List.replicate n true ++ List.replicate (l.toArray.size - n) false)[j]? from List.getElem?_toArray .., List.getElem?_append]
        simp only [List.length_replicate]
        by_cases hj : j < n
        · have := hall j hj
          rw [if_pos hj]
          simp [show j < L.size by omega] at this
          simp [hj, show j < L.size by omega, this]
        · rw [if_neg hj]
          by_cases hj2 : j < l.toArray.size
          · have := htl j (by omega) hj2
            simp [show j < L.size by omega] at this
            rw [Array.getElem?_eq_getElem (by omega), this, List.getElem?_replicate, if_pos (by omega)]
          · rw [Array.getElem?_eq_none (by omega), List.getElem?_replicate, if_neg (by omega)]
      simp only [tailB, Bool.or_eq_true, Bool.and_eq_true, decide_eq_true_eq] at hB
      rcases hB with hB | ⟨⟨⟨hB1, hB2⟩, hB3⟩, hB4⟩
      · rw [show l.toArray.size - n = 0 by omega]
        have hd : l.drop n = [] := List.drop_eq_nil_of_le (by simp at hB; omega)
        rw [hd] at hlist
        refine ⟨?_, hlist⟩
        apply List.eq_nil_iff_forall_not_mem.2
        intro t hr
        obtain ⟨hunt, o, ho, _⟩ := mem_ready.1 hr
        have hto : t < l.toArray.size := (Array.getElem?_eq_some_iff.1 ho).1
        have := hall t (by omega)
        rw [getD_both hunt] at this
        cases this
      · have hdl : (l.drop n).length = l.toArray.size - n := by simp
        have := wpAny_of_seq (P := P) (ops := l.toArray) (md := .any) (Q' := Q) (l.drop n) n L _ w' (fun j => by simp [List.getElem?_drop]) (by rw [hdl, hLe]; exact hB4) hlist
        rwa [hdl] at this)
    (cnt n (Array.replicate l.toArray.size false)) γ0 (Array.replicate l.toArray.size false) w.drew (by simp) (fun j o _ hl => by rw [getD_replicate_false] at hl; cases hl)
    (fun t _ hts => getD_in (by simpa using hts) (getD_replicate_false _ _)) rfl (by simpa using hC)
  have hc : cnt n (Array.replicate l.toArray.size false) = n := by
    unfold cnt
    have : ∀ i ∈ List.range n, (!(Array.replicate l.toArray.size false).getD i true) = true := fun i hi => by
      have hi' := List.mem_range.1 hi
      have : i < l.length := by simp at hn; omega
      simp [this]
    rw [List.countP_eq_length.2 this, List.length_range]
  rw [hc, show n + (l.toArray.size - n) = l.toArray.size by omega] at H
  have hz : fr l.toArray (vals γ0) (fun j => (Array.replicate l.toArray.size false).getD j false) l.toArray.size a = a := by
    rw [fr_congr (l' := fun j => decide (j < 0)) fun j _ => by rw [getD_replicate_false]; simp]
    have := fr_stop (ops := l.toArray) (vals := vals γ0) (k := 0) l.toArray.size a
    rw [Nat.zero_add] at this
    exact this
  rw [hz] at H
  exact H

/-- The operations in the order of the text, the k-th first. -/
def wpE (P : Program) (ops : Array Oper) (S : Nat → Value → Prop) (D : Nat → (Nat → Value) → World → Prop) (K : Nat → (Nat → Value) → World → World → Prop) (C : (Nat → Bool) → World → Prop) (Q : (Nat → Value) → Act → Prop) : Nat → (Nat → Value) → List Oper → Act → Prop
  | _, vs, [], a => Q vs a
  | k, vs, o :: rest, a => ((Region.wanted o (yielded ops a.tmps) = true ∧ ∀ d w, d k = false → C d w → (∀ j, Region.waitsFor .any ops k j = true → D j vs w) →
      GivesE P o a w fun v w' => S k v ∧ C (upB d k) w' ∧ K k vs w w' ∧ D k (updV vs k v) w') ∨
      (Region.wanted o (yielded ops a.tmps) = false ∧ S k undef ∧ (∀ d w, C d w → C (upB d k) w) ∧ ∀ w, D k (updV vs k undef) w)) ∧ (S k (vs k) → wpE P ops S D K C Q (k + 1) vs rest (a.put o.dst (vs k)))
theorem wpE_at {S : Nat → Value → Prop} {D : Nat → (Nat → Value) → World → Prop} {K : Nat → (Nat → Value) → World → World → Prop} {C : (Nat → Bool) → World → Prop} {Qk : (Nat → Value) → Act → Prop} {vs : Nat → Value} (hS : ∀ j, S j (vs j)) : ∀ (l : List Oper) (k : Nat) (a : Act), wpE P ops S D K C Qk k vs l a →
    Qk vs (lexF l (fun i => vs (k + i)) l.length a) ∧ ∀ i o, l[i]? = some o →
      ((Region.wanted o (yielded ops (lexF l (fun i => vs (k + i)) i a).tmps) = true ∧ ∀ d w, d (k + i) = false → C d w → (∀ j, Region.waitsFor .any ops (k + i) j = true → D j vs w) →
        GivesE P o (lexF l (fun i => vs (k + i)) i a) w fun v w' => S (k + i) v ∧ C (upB d (k + i)) w' ∧ K (k + i) vs w w' ∧ D (k + i) (updV vs (k + i) v) w') ∨
      (Region.wanted o (yielded ops (lexF l (fun i => vs (k + i)) i a).tmps) = false ∧ S (k + i) undef ∧ (∀ d w, C d w → C (upB d (k + i)) w) ∧ ∀ w, D (k + i) (updV vs (k + i) undef) w))
  | [], k, a, h => ⟨h, fun i o hi => by simp at hi⟩
  | o :: l, k, a, h => by
    obtain ⟨h1, h2⟩ := h
    obtain ⟨hq, hs⟩ := wpE_at hS l (k + 1) _ (h2 (hS k))
    have e : (fun i => vs (k + 1 + i)) = fun i => vs (k + (i + 1)) := funext fun i => by rw [show k + 1 + i = k + (i + 1) by omega]
    rw [e] at hq hs
    refine ⟨?_, fun i o' hi => ?_⟩
    · rw [List.length_cons, lexF_cons]; exact hq
    · cases i with
      | zero =>
        simp only [List.getElem?_cons_zero, Option.some.injEq] at hi
        subst hi
        exact h1
      | succ i =>
        rw [lexF_cons, show k + (i + 1) = k + 1 + i by omega]
        exact hs i o' (by simpa using hi)
theorem wp_region_ex {id : Nat} {Q : Exit → Act → World → Prop} {C : (Nat → Bool) → World → Prop} {S : Nat → Value → Prop} {D : Nat → (Nat → Value) → World → Prop} {K : Nat → (Nat → Value) → World → World → Prop} {a : Act} {w : World} {l : List Oper} (n : Nat)
    (hm : P.follows .mixedOrders = true) (ht : tidy l.toArray = true) (hB : tailB l.toArray n = true)
    (v0 : Nat → Value) (h0 : ∀ j, S j (v0 j)) (hD : ∀ i j vs w w', i < n → j ≠ i → Region.waitsFor .any l.toArray j i = false → D j vs w → K i vs w w' → D j vs w')
    (hL : ∀ j i vs v w, j ≠ i → Region.waitsFor .any l.toArray j i = false → D j vs w → D j (updV vs i v) w)
    (hC : C (fun _ => false) w.drew)
    (h : ∀ vs : Nat → Value, wpE P l.toArray S D K C (fun vs a' => ∀ d w', (∀ k, k < n → d k = true) → C d w' → (∀ k, k < n → D k vs w') → wpList P l.toArray Q (l.drop n) a' w') 0 vs (l.take n) a) : (Code.region id l.toArray true).wp P Q a w := by
  refine region_coreE (Γ := {vs : Nat → Value // ∀ j, S j (vs j)}) (C := fun γ L w' => C (fun j => L.getD j false) w' ∧ Closed l.toArray L ∧ ∀ k, k < n → L.getD k false = true → D k γ.1 w') n hm ht hB ⟨v0, h0⟩
    ⟨by rw [show (fun j => (Array.replicate l.length false).getD j false) = fun _ => false from funext fun j => getD_replicate_false _ j]; exact hC, (fun j o _ hl => by rw [getD_replicate_false] at hl; cases hl), fun k _ hk => by rw [getD_replicate_false] at hk; cases hk⟩ (fun γ => γ.1) ?_ ?_
  · intro i o hi γ L w' hsz hr ⟨hC', hcl, hDs⟩
    have hin : i < n := by
      have := (List.getElem?_eq_some_iff.1 hi).1
      rw [List.length_take] at this; omega
    have hun := getD_both (mem_ready.1 hr).1
    have hlt : i < L.size := by
      obtain ⟨o', ho', _⟩ := (mem_ready.1 hr).2
      have := (Array.getElem?_eq_some_iff.1 ho').1
      simp at this; omega
    have hup : (fun j => (L.setIfInBounds i true).getD j false) = upB (fun j => L.getD j false) i := funext fun j => by
      unfold upB
      by_cases e : j = i
      · subst e; rw [if_pos rfl]; simp [hlt]
      · rw [if_neg e, getD_set_ne false (Ne.symm e)]
    have hcl2 := closed_set hcl hr
    have key := (wpE_at γ.2 (l.take n) 0 a (h γ.1)).2 i o hi
    simp only [Nat.zero_add] at key
    have hwait : ∀ j, Region.waitsFor .any l.toArray i j = true → D j γ.1 w' := fun j hj => by
      have h1 := waits_ready hr hj
      have hji : j < i := by
        obtain ⟨o2, ho2, e2, he2, hb2, hon⟩ := Region.waitsFor_spec hj
        have := tidy_edge ht ho2 e2 he2 hb2
        omega
      exact hDs j (by omega) h1
    have step : ∀ (v : Value) (w2 : World), C (upB (fun j => L.getD j false) i) w2 → (w2 = w' ∨ K i γ.1 w' w2) → D i (updV γ.1 i v) w2 →
        C (fun j => (L.setIfInBounds i true).getD j false) w2 ∧ Closed l.toArray (L.setIfInBounds i true) ∧ ∀ k, k < n → (L.setIfInBounds i true).getD k false = true → D k (updV γ.1 i v) w2 := fun v w2 hc hb hd => by
      refine ⟨by rw [hup]; exact hc, hcl2, fun k hk hL' => ?_⟩
      by_cases e : k = i
      · subst e; exact hd
      · rw [getD_set_ne false (Ne.symm e)] at hL'
        have hw : Region.waitsFor .any l.toArray k i = false := by
          cases hx : Region.waitsFor .any l.toArray k i with
          | false => rfl
          | true =>
            have := waits_closed hcl hL' hx
            rw [hun] at this
            cases this
        refine hL k i _ v _ e hw ?_
        rcases hb with rfl | hb
        · exact hDs k hk hL'
        · exact hD i k _ _ _ hin e hw (hDs k hk hL') hb
    have upd : ∀ v, S i v → ∀ j, S j (updV γ.1 i v j) := fun v hv j => by
      by_cases e : j = i
      · subst e; rw [updV_self]; exact hv
      · rw [updV_ne _ _ e]; exact γ.2 j
    have keep : ∀ v j, L.getD j false = true → γ.1 j = updV γ.1 i v j := fun v j hj => by
      have : j ≠ i := fun e => by subst e; rw [hun] at hj; cases hj
      rw [updV_ne _ _ this]
    rcases key with ⟨k1, k2⟩ | ⟨k1, k2, k3, k4⟩
    · refine .inl ⟨k1, givesE_mono (k2 _ w' hun hC' hwait) fun v w2 ⟨h1, h2, h3, h4⟩ => ⟨⟨updV γ.1 i v, upd v h1⟩, keep v, updV_self _ _ _, step v w2 h2 (.inr h3) h4⟩⟩
    · exact .inr ⟨k1, ⟨updV γ.1 i undef, upd undef k2⟩, keep undef, updV_self _ _ _, step undef w' (k3 _ _ hC') (.inl rfl) (k4 w')⟩
  · intro γ L w' hall ⟨hC', _, hDs⟩
    have key := (wpE_at γ.2 (l.take n) 0 a (h γ.1)).1
    have ez : (fun i => γ.1 (0 + i)) = γ.1 := funext fun i => by rw [Nat.zero_add]
    rw [ez] at key
    exact key _ w' hall hC' fun k hk => hDs k hk (hall k hk)
end
end Go.Proofs.Ytclmdakgkiponaa
set_option maxRecDepth 100000
namespace Go.Proofs.Ytclmdakgkiponaa
open Go.ChangeShapes Go.WideShapes Go.ChangeAt Go.RowKit
attribute [local go_sem] Gives GivesE
theorem gE_ldA {a : Act} {w : World} {dst : Option Tmp} {ty : TypeId} {pos : String} {after : Array Edge} {x : Operand} {g o n : Nat} {f : Nat → Nat} {T : TypeId} {gd : Option (Nat × Bool)} {R : Value → World → Prop} (hT : ArT T n) (hx : a.eval x = .pointer (some ⟨g, o, none⟩)) (hb : w.rangeAt g o (ar n f).toList) (hR : R (.agg (ar n f)) w) : GivesE Try.prog ⟨dst, .load T x, ty, pos, after, gd⟩ a w R := by
  unfold GivesE
  simp only [execOp, hx, Sem.run_bind, run_ldm hT hb, Result.andThen_ok, Sem.run_pure]
  exact hR
section
variable {a : Act} {w : World} {dst : Option Tmp} {ty r : TypeId} {pos : String} {after : Array Edge} {x y : Operand} {f g : Nat → Nat} {gd : Option (Nat × Bool)} {R : Value → World → Prop} {T : TypeId} {n : Nat}
theorem exec_eqU (hT : Try.prog.underlying T = some (.array n 5)) (hg : Try.prog.eqGuardType Try.prog.depth T = false) (hx : a.eval x = .agg (ar n f)) (hy : a.eval y = .agg (ar n g)) : (execOp a.eval ⟨dst, .binOp .eql T x y r, ty, pos, after, gd⟩).run Try.prog w = .ok (.value (.bool (eqA n f g))) w := by
  have h1 : (eqGuard .eql T x y (.agg (ar n f)) (.agg (ar n g))).run Try.prog w = .ok () w := by
    simp [eqGuard, hg, go_sem]
  simp only [execOp, hx, hy, Sem.run_bind, h1, run_eql_ar hT, Result.andThen_ok, Sem.run_pure]
theorem gE_eqU (hT : Try.prog.underlying T = some (.array n 5)) (hg : Try.prog.eqGuardType Try.prog.depth T = false) (hx : a.eval x = .agg (ar n f)) (hy : a.eval y = .agg (ar n g)) (hR : R (.bool (eqA n f g)) w) : GivesE Try.prog ⟨dst, .binOp .eql T x y r, ty, pos, after, gd⟩ a w R := by
  unfold GivesE
  rw [exec_eqU hT hg hx hy]
  exact hR
end
section
variable {ops : Array Oper} {a : Act} {rest : List Oper} {dst : Option Tmp} {ty r : TypeId} {pos : String} {after : Array Edge} {x y : Operand} {f g : Nat → Nat} {gd : Option (Nat × Bool)} {C : World → Prop} {Qk : Act → Prop} {T : TypeId} {n : Nat}
theorem keqU (b : Bool) (hT : Try.prog.underlying T = some (.array n 5)) (hg : Try.prog.eqGuardType Try.prog.depth T = false) (hwt : Region.wanted ⟨dst, .binOp .eql T x y r, ty, pos, after, gd⟩ (yielded ops a.tmps) = true) (hx : a.eval x = .agg (ar n f)) (hy : a.eval y = .agg (ar n g)) (hb : eqA n f g = b)
    (h : wpK Try.prog ops C Qk rest (a.put dst (.bool b))) : wpK Try.prog ops C Qk (⟨dst, .binOp .eql T x y r, ty, pos, after, gd⟩ :: rest) a :=
  wpK_val hwt (fun w hw => gives_value (w' := w) (by rw [exec_eqU hT hg hx hy, hb]) hw) h
theorem kneU (b : Bool) (hT : Try.prog.underlying T = some (.array n 5)) (hg : Try.prog.eqGuardType Try.prog.depth T = false) (hwt : Region.wanted ⟨dst, .binOp .neq T x y r, ty, pos, after, gd⟩ (yielded ops a.tmps) = true) (hx : a.eval x = .agg (ar n f)) (hy : a.eval y = .agg (ar n g)) (hb : (!eqA n f g) = b)
    (h : wpK Try.prog ops C Qk rest (a.put dst (.bool b))) : wpK Try.prog ops C Qk (⟨dst, .binOp .neq T x y r, ty, pos, after, gd⟩ :: rest) a :=
  wpK_val hwt (fun w hw => gives_value (w' := w) (by
    have h1 : (eqGuard .neq T x y (.agg (ar n f)) (.agg (ar n g))).run Try.prog w = .ok () w := by
      simp [eqGuard, hg, go_sem]
    simp only [execOp, hx, hy, Sem.run_bind, h1, run_neq_ar hT, Result.andThen_ok, Sem.run_pure, hb]) hw) h
/-- A literal of one constant part, in such a region. -/
theorem kbldOne {i : Nat} {v : Value} {cs : Array Value} (hwt : Region.wanted ⟨dst, .build T #[(i, .const v)], ty, pos, after, gd⟩ (yielded ops a.tmps) = true) (hb : ∀ w, (Instr.build T #[(i, v)]).run Try.prog w = .ok (.agg cs) w)
    (h : wpK Try.prog ops C Qk rest (a.put dst (.agg cs))) : wpK Try.prog ops C Qk (⟨dst, .build T #[(i, .const v)], ty, pos, after, gd⟩ :: rest) a :=
  wpK_val hwt (fun w hw => gives_value (w' := w) (by
    have e : (#[(i, Operand.const v)] : Array (Nat × Operand)).map (fun (i, x) => (i, a.eval x)) = #[(i, v)] := by simp only [List.map_toArray, List.map_cons, List.map_nil]; rfl
    simp only [execOp, Sem.run_bind, e, hb, Result.andThen_ok, Sem.run_pure]) hw) h
/-- A literal of no part. -/
theorem kbldZ {cs : Array Value} (hwt : Region.wanted ⟨dst, .build T #[], ty, pos, after, gd⟩ (yielded ops a.tmps) = true) (hb : ∀ w, (Instr.build T #[]).run Try.prog w = .ok (.agg cs) w)
    (h : wpK Try.prog ops C Qk rest (a.put dst (.agg cs))) : wpK Try.prog ops C Qk (⟨dst, .build T #[], ty, pos, after, gd⟩ :: rest) a :=
  wpK_val hwt (fun w hw => gives_value (w' := w) (by
    have e : (#[] : Array (Nat × Operand)).map (fun (i, x) => (i, a.eval x)) = #[] := by simp
    simp only [execOp, Sem.run_bind, e, hb, Result.andThen_ok, Sem.run_pure]) hw) h
end
namespace DvP
end DvP
end Go.Proofs.Ytclmdakgkiponaa
set_option maxRecDepth 100000
namespace Go.Proofs.Ytclmdakgkiponaa
open Go.ChangeShapes Go.WideShapes Go.ChangeAt Go.RowKit
attribute [local go_sem] GivesE
/-- What is known of a value: its kind, what a world holds of it, one of the kind. -/
structure Sp where
  S : Value → Prop
  D : Value → World → Prop
  v0 : Value
structure Sp.ok (c : Sp) : Prop where
  some : c.S c.v0
  keep : ∀ v w1 w2, c.D v w1 → Below w1.heap.size w1 w2 → c.D v w2
def lkSp : List (Nat × Sp) → Nat → Option Sp
  | [], _ => none
  | (p, c) :: r, j => if j = p then some c else lkSp r j
def yS (fx : List (Option Value)) (sp : List (Nat × Sp)) (j : Nat) (v : Value) : Prop := match lkSp sp j with
  | some c => c.S v
  | none => match fx[j]? with
    | some (some u) => v = u
    | _ => True
def yV (fx : List (Option Value)) (sp : List (Nat × Sp)) (j : Nat) : Value := match lkSp sp j with
  | some c => c.v0
  | none => match fx[j]? with
    | some (some u) => u
    | _ => undef
theorem lk_mem : ∀ {sp : List (Nat × Sp)} {j : Nat} {c : Sp}, lkSp sp j = some c → ∃ p, (p, c) ∈ sp
  | [], _, _, h => by cases h
  | (p, d) :: r, j, c, h => by
    unfold lkSp at h
    split at h
    · cases h; exact ⟨p, List.mem_cons_self⟩
    · obtain ⟨q, hq⟩ := lk_mem h
      exact ⟨q, List.mem_cons_of_mem _ hq⟩
theorem yS_ok (fx : List (Option Value)) {sp : List (Nat × Sp)} (h : ∀ x ∈ sp, x.2.ok) (j : Nat) : yS fx sp j (yV fx sp j) := by
  unfold yS yV
  split
  · rename_i c hc
    obtain ⟨p, hp⟩ := lk_mem hc
    exact (h _ hp).some
  · split
    · rfl
    · trivial
def yD (sp : List (Nat × Sp)) (j : Nat) (vs : Nat → Value) (w : World) : Prop := match lkSp sp j with
  | some c => c.D (vs j) w
  | none => True
theorem yD_keep {sp : List (Nat × Sp)} (h : ∀ x ∈ sp, x.2.ok) {j : Nat} {vs : Nat → Value} {w1 w2 : World} (hd : yD sp j vs w1) (hb : Below w1.heap.size w1 w2) : yD sp j vs w2 := by
  unfold yD at hd ⊢
  split
  · rename_i c hc
    rw [hc] at hd
    obtain ⟨p, hp⟩ := lk_mem hc
    exact (h _ hp).keep _ _ _ hd hb
  · trivial
theorem yD_loc {sp : List (Nat × Sp)} {i j : Nat} {vs : Nat → Value} {v : Value} {w : World} (hji : j ≠ i) (h : yD sp j vs w) : yD sp j (updV vs i v) w := by
  unfold yD at h ⊢
  rw [updV_ne _ _ hji]
  exact h
theorem yD_some {sp : List (Nat × Sp)} {p : Nat} {c : Sp} {vs : Nat → Value} {v : Value} {w : World} (hc : lkSp sp p = some c) (h : c.D v w) : yD sp p (updV vs p v) w := by
  unfold yD
  rw [hc, updV_self]
  exact h
theorem wp_region_y {id : Nat} {Q : Exit → Act → World → Prop} {a : Act} {w : World} {l : List Oper} (fx : List (Option Value)) (sp : List (Nat × Sp)) (hsp : ∀ x ∈ sp, x.2.ok)
    (n : Nat) (hm : Try.prog.follows .mixedOrders = true) (ht : tidy l.toArray = true) (hB : tailB l.toArray n = true)
    (h : ∀ vs : Nat → Value, wpE Try.prog l.toArray (yS fx sp) (yD sp) (fun _ _ w w' => Below w.heap.size w w') (fun _ w' => Below w.heap.size w w') (fun vs a' => ∀ (d : Nat → Bool) w', (∀ k, k < n → d k = true) → Below w.heap.size w w' → (∀ k, k < n → yD sp k vs w') → wpList Try.prog l.toArray Q (l.drop n) a' w') 0 vs (l.take n) a) :
    (Code.region id l.toArray true).wp Try.prog Q a w :=
  wp_region_ex (S := yS fx sp) (D := yD sp) (K := fun _ _ w w' => Below w.heap.size w w') (C := fun _ w' => Below w.heap.size w w') n hm ht hB _ (yS_ok fx hsp) (fun i j vs w w' _ _ _ h hb => yD_keep hsp h hb)
    (fun j i vs v w hji _ h => yD_loc hji h) (Below.refl _ _).drew h
end Go.Proofs.Ytclmdakgkiponaa
set_option maxRecDepth 100000
namespace Go.Proofs.Ytclmdakgkiponaa
open Go.ChangeShapes Go.WideShapes Go.ChangeAt Go.RowKit
section
variable {α : Type} {k : Nat} {en : α → List Value} {E L : TypeId}
theorem run_lit1 (hE : EltX E k en) (hu : Try.prog.underlying L = some (.slice E)) (x : α) {v : Value} (hv : v.cells.toList = en x) (hk : k ≤ 1000) (w : World) :
    (Instr.buildSlice L 1 #[(0, v)]).run Try.prog w = .ok (.slice (some ⟨w.heap.size, 0, none⟩) 1 1) (w.alloc (.cells (en x).toArray E)) := by
  obtain ⟨ie, z, hi, hz, h1, h2, h3⟩ := hE.info
  refine run_buildSlice w L E 1 _ _ ie z hu hi hz (by rw [h1]; omega) (by rw [h1]; have := hE.pos; omega) ?_
  have hcs : v.cells.size = k := by rw [← Array.length_toList, hv, hE.len]
  have := fill_consec (place := fun i => some (i * ie.size, ie.size)) [v] [(0, k)] [] (((Array.range (1 * ie.size)).map (z.cells[· % z.cells.size]!)).toList) 0 ⟨rfl, trivial⟩ (by simp [hcs]) (by simp [h1]) (fun j hj => by
    have : j = 0 := by simp at hj; exact hj
    subst this
    simp [h1])
  simp only [List.nil_append, List.map_cons, List.map_nil, List.sum_cons, List.sum_nil, Nat.add_zero, List.flatMap_cons, List.flatMap_nil, List.append_nil, hv] at this
  rw [List.drop_eq_nil_of_le (by simp [h1]), List.append_nil, Array.toArray_toList] at this
  exact this
/-- What such a literal is. -/
theorem sli_lit1 {S : Nat → Prop} (hE : EltX E k en) (x : α) (w : World) (hS : S w.heap.size) : Sli k en S (w.alloc (.cells (en x).toArray E)) (some ⟨w.heap.size, 0, none⟩) [x] 1 1 where
  len := rfl
  cap := Nat.le_refl _
  max := by unfold maxLen; omega
  none e := by cases e
  lst _ := ⟨w.heap.size, 0, rfl, hS, by simp, fun i y hi j u hj => by
    have hb : Blk (w.alloc (.cells (en x).toArray E)) w.heap.size E (en x).toArray := Blk.new _ _ _
    cases i with
    | zero =>
      simp only [List.getElem?_cons_zero, Option.some.injEq] at hi
      subst hi
      rw [Nat.zero_add, Nat.zero_mul, Nat.zero_add, hb.cell]
      simpa using hj
    | succ i => simp at hi⟩
variable {ops : Array Oper} {Q : Exit → Act → World → Prop} {a : Act} {w : World} {rest : List Oper} {dst : Option Tmp} {ty : TypeId} {pos : String} {after : Array Edge} {o : Operand} {x : α} {v : Value}
theorem wlit1 (hE : EltX E k en) (hu : Try.prog.underlying L = some (.slice E)) (hk : k ≤ 1000) (ho : a.eval o = v) (hv : v.cells.toList = en x)
    (h : wpList Try.prog ops Q rest (a.put dst (.slice (some ⟨w.heap.size, 0, none⟩) 1 1)) (w.alloc (.cells (en x).toArray E))) :
    wpList Try.prog ops Q (⟨dst, .buildSlice L 1 #[(0, o)], ty, pos, after, none⟩ :: rest) a w := by
  have hm : (#[(0, o)] : Array (Nat × Operand)).map (fun (i, x) => (i, a.eval x)) = #[(0, v)] := by
    simp only [List.map_toArray, List.map_cons, List.map_nil, ho]
  refine wpList_plain rfl fun K hK => ?_
  unfold Oper.wp execOp
  simp only [Sem.run_bind, hm, run_lit1 hE hu x hv hk w, Result.andThen_ok, Sem.run_pure]
  exact hK _ _ h
theorem gE_lit1 {gd : Option (Nat × Bool)} {R : Value → World → Prop} (hE : EltX E k en) (hu : Try.prog.underlying L = some (.slice E)) (hk : k ≤ 1000) (ho : a.eval o = v) (hv : v.cells.toList = en x)
    (h : R (.slice (some ⟨w.heap.size, 0, none⟩) 1 1) (w.alloc (.cells (en x).toArray E))) : GivesE Try.prog ⟨dst, .buildSlice L 1 #[(0, o)], ty, pos, after, gd⟩ a w R := by
  have hm : (#[(0, o)] : Array (Nat × Operand)).map (fun (i, x) => (i, a.eval x)) = #[(0, v)] := by
    simp only [List.map_toArray, List.map_cons, List.map_nil, ho]
  unfold GivesE execOp
  simp only [Sem.run_bind, hm, run_lit1 hE hu x hv hk w, Result.andThen_ok, Sem.run_pure]
  exact h
theorem gE_slX {gd : Option (Nat × Bool)} {R : Value → World → Prop} {S : Nat → Prop} {A : Option Addr} {l : List α} {n cap i j : Nat} {x y z : Operand} (hE : EltX E k en) (hu : Try.prog.underlying L = some (.slice E)) (hel : Try.prog.elem L = E)
    (hx : a.eval x = .slice A n cap) (hy : a.eval y = .int .i64 i) (hz : a.eval z = .int .i64 j) (h : Sli k en S w A l n cap) (hij : i ≤ j) (hj : j ≤ n)
    (hR : ∀ A', Sli k en S w A' ((l.drop i).take (j - i)) (j - i) (cap - i) → R (.slice A' (j - i) (cap - i)) w) : GivesE Try.prog ⟨dst, .slice L x (some y) (some z) none, ty, pos, after, gd⟩ a w R := by
  obtain ⟨A', hr, ha⟩ := run_slX hE hu hel h hij hj
  unfold GivesE execOp
  simp only [Sem.run_bind, Option.map_some, Option.map_none, Sem.run_pure, hx, hy, hz, hr, Result.andThen_ok]
  exact hR A' ha
/-- A slice of these elements, wherever it lies in blocks of S. -/
def spX (k : Nat) (en : α → List Value) (S : Nat → Prop) (l : List α) : Sp := ⟨fun v => ∃ (A : Option Addr) (c : Nat), v = .slice A l.length c, fun v w => ∃ (A : Option Addr) (c : Nat), v = .slice A l.length c ∧ Sli k en S w A l l.length c, .slice none l.length 0⟩
theorem spX_ok (k : Nat) (en : α → List Value) (S : Nat → Prop) (l : List α) : (spX k en S l).ok := ⟨⟨none, 0, rfl⟩, fun v w1 w2 ⟨A, c, h1, h2⟩ hb => ⟨A, c, h1, h2.turn (Turn.of_new (S := fun _ => False) hb) fun _ _ _ e => e⟩⟩
end
end Go.Proofs.Ytclmdakgkiponaa
set_option maxRecDepth 100000
namespace Go.Proofs.Ytclmdakgkiponaa
open Go.ChangeShapes Go.WideShapes Go.ChangeAt Go.RowKit
section
variable {α : Type} {k : Nat} {en : α → List Value} {E L ty : TypeId} {S T : Nat → Prop} {w : World} {A B : Option Addr} {l m : List α}
theorem flat_read (hE : EltX E k en) {n c : Nat} {ad : Addr} (h : Sli k en S w (some ad) l n c) : ∀ j u, (l.flatMap en)[j]? = some u → w.cell? (ad.add j) = some u := fun j u hj => by
  have hjl := (List.getElem?_eq_some_iff.1 hj).1
  rw [flat_len hE.len] at hjl
  have hq : j / k < l.length := Nat.div_lt_of_lt_mul (by rw [Nat.mul_comm]; exact hjl)
  have h4 := flat_at hE.len l (j / k) (j % k) l[j / k] (List.getElem?_eq_getElem hq) (Nat.mod_lt _ hE.pos)
  rw [show j / k * k + j % k = j by rw [Nat.mul_comm]; exact Nat.div_add_mod j k, hj] at h4
  obtain ⟨b, o, e, _, _, hr⟩ := h.lst (Nat.lt_of_le_of_lt (Nat.zero_le _) hq)
  obtain rfl : ad = ⟨b, o, none⟩ := Option.some.inj e
  have h5 := hr (j / k) l[j / k] (List.getElem?_eq_getElem hq) (j % k) u h4.symm
  rw [Addr.add_mid]
  rwa [show o + j / k * k + j % k = o + j by have := Nat.div_add_mod j k; rw [Nat.mul_comm] at this; omega] at h5
theorem sli_new (hE : EltX E k en) (ls : List α) (zs : List Value) (n c : Nat) (hn : ls.length = n) (hnc : n ≤ c) (hc : c ≤ maxLen) (w' : World) (cs : Array Value) (hcs : cs.toList = ls.flatMap en ++ zs) :
    Sli k en (fun b => w'.heap.size ≤ b) (w'.alloc (.cells cs E)) (some ⟨w'.heap.size, 0, none⟩) ls n c where
  len := hn
  cap := hnc
  max := hc
  none e := by cases e
  lst _ := ⟨w'.heap.size, 0, rfl, Nat.le_refl _, by simp, fun i x hi j u hj => by
    have hb : Blk (w'.alloc (.cells cs E)) w'.heap.size E cs := Blk.new _ _ _
    have hjl : j < k := by have := (List.getElem?_eq_some_iff.1 hj).1; rwa [hE.len] at this
    have h1 := flat_at hE.len ls i j x hi hjl
    rw [Nat.zero_add, hb.cell, ← Array.getElem?_toList, hcs, List.getElem?_append_left (by
      have := (List.getElem?_eq_some_iff.1 hi).1
      rw [flat_len hE.len]
      have := Nat.mul_le_mul_right k (show i + 1 ≤ ls.length from this)
      rw [Nat.add_mul] at this
      omega), h1]
    exact hj⟩
theorem run_full (hE : EltX E k en) (hu : Try.prog.underlying L = some (.slice E)) {n j cB : Nat} (h : Sli k en S w A l n n) (hm : Sli k en T w B m j cB) (hj : 0 < j) (hsz : n + j ≤ 1000000) (hk : k ≤ 1000) :
    ∃ A' c' w', (Builtin.append_ #[L, L] ty #[.slice A n n, .slice B j cB]).run Try.prog w = .ok (.slice A' (n + j) c') w' ∧ Sli k en (fun b => w.heap.size ≤ b) w' A' (l ++ m) (n + j) c' ∧ Below w.heap.size w w' := by
  obtain ⟨i, z, hi, hz, h1, h2, h3⟩ := hE.info
  have hbytes : (n + j) * i.bytes ≤ 140737488355328 := Nat.le_trans (Nat.mul_le_mul hsz (Nat.le_trans h2 (show 16 * k + 16 ≤ 16016 by omega))) (by omega)
  obtain ⟨bd, rfl⟩ : ∃ bd, B = some bd := by
    cases B with
    | none => have := hm.none rfl; omega
    | some bd => exact ⟨bd, rfl⟩
  have hlm : (m.flatMap en).length = j * i.size := by rw [flat_len hE.len, hm.len, h1]
  cases A with
  | none =>
    obtain ⟨rfl, _⟩ := h.none rfl
    obtain rfl := List.eq_nil_of_length_eq_zero h.len
    have hr := run_append_nil (P := Try.prog) w L ty E i z hu hi hz bd j cB (m.flatMap en) hlm (flat_read hE hm) hj (by omega) (by rw [Nat.zero_add] at hbytes; omega)
    rw [Nat.zero_add, List.nil_append]
    exact ⟨_, _, _, hr, sli_new hE m _ j _ hm.len (grownCap_ge _ _ _ _) (grownCap_le_maxLen _ _ _ _ (by unfold maxLen; omega)) w.drew _ (by simp; rfl), (Below.refl _ _).drew.alloc (Nat.le_refl _) _⟩
  | some ad =>
    have hll : (l.flatMap en).length = n * i.size := by rw [flat_len hE.len, h.len, h1]
    have hr := run_append_grow (P := Try.prog) w L ty E i z hu hi hz ad n n (l.flatMap en) hll (flat_read hE h) bd j cB (m.flatMap en) hlm (flat_read hE hm) (by omega) (by omega) (growslice_fits (by omega) hbytes)
    refine ⟨_, _, _, hr, sli_new hE (l ++ m) _ (n + j) _ (by rw [List.length_append, h.len, hm.len]) (grownCap_ge _ _ _ _) (grownCap_le_maxLen _ _ _ _ (by unfold maxLen; omega)) w.drew _ (by simp [List.flatMap_append]; rfl), (Below.refl _ _).drew.alloc (Nat.le_refl _) _⟩
variable {a : Act} {dst : Option Tmp} {pos : String} {after : Array Edge} {gd : Option (Nat × Bool)} {R : Value → World → Prop} {o1 o2 : Operand}
theorem gE_full (hE : EltX E k en) (hu : Try.prog.underlying L = some (.slice E)) {n j cB : Nat} (hx : a.eval o1 = .slice A n n) (hy : a.eval o2 = .slice B j cB) (h : Sli k en S w A l n n) (hm : Sli k en T w B m j cB) (hj : 0 < j) (hsz : n + j ≤ 1000000) (hk : k ≤ 1000)
    (hR : ∀ A' c' w', Sli k en (fun b => w.heap.size ≤ b) w' A' (l ++ m) (n + j) c' → Below w.heap.size w w' → R (.slice A' (n + j) c') w') :
    GivesE Try.prog ⟨dst, .call { callee := .builtin .append, args := #[o1, o2], argTypes := #[L, L] }, ty, pos, after, gd⟩ a w R := by
  obtain ⟨A', c', w', hr, h1, h2⟩ := run_full (ty := ty) hE hu h hm hj hsz hk
  unfold GivesE execOp
  simp only [resolve, invoke, builtin, Sem.run_bind, Sem.run_pure, Result.andThen_ok, List.map_toArray, List.map_cons, List.map_nil, hx, hy, hr]
  exact hR A' c' w' h1 h2
end
end Go.Proofs.Ytclmdakgkiponaa
set_option maxRecDepth 100000
namespace Go.Proofs.Ytclmdakgkiponaa
open Go.ChangeShapes Go.WideShapes Go.ChangeAt Go.RowKit
section
variable {α : Type} {k : Nat} {en : α → List Value} {E L : TypeId}
theorem run_lit2 (hE : EltX E k en) (hu : Try.prog.underlying L = some (.slice E)) (x y : α) {v u : Value} (hv : v.cells.toList = en x) (hy : u.cells.toList = en y) (hk : k ≤ 1000) (w : World) :
    (Instr.buildSlice L 2 #[(0, v), (1, u)]).run Try.prog w = .ok (.slice (some ⟨w.heap.size, 0, none⟩) 2 2) (w.alloc (.cells (en x ++ en y).toArray E)) := by
  obtain ⟨ie, z, hi, hz, h1, h2, h3⟩ := hE.info
  refine run_buildSlice w L E 2 _ _ ie z hu hi hz (by rw [h1]; omega) (by rw [h1]; have := hE.pos; omega) ?_
  have hcs : v.cells.size = k := by rw [← Array.length_toList, hv, hE.len]
  have hcu : u.cells.size = k := by rw [← Array.length_toList, hy, hE.len]
  have := fill_consec (place := fun i => some (i * ie.size, ie.size)) [v, u] [(0, k), (k, k)] [] (((Array.range (2 * ie.size)).map (z.cells[· % z.cells.size]!)).toList) 0 ⟨rfl, by simp, trivial⟩ (by simp [hcs, hcu]) (by simp [h1]; omega) (fun j hj => by
    have : j = 0 ∨ j = 1 := by simp at hj; omega
    rcases this with rfl | rfl
    · simp [h1]
    · simp [h1])
  simp only [List.nil_append, List.map_cons, List.map_nil, List.sum_cons, List.sum_nil, Nat.add_zero, List.flatMap_cons, List.flatMap_nil, List.append_nil, hv, hy] at this
  rw [List.drop_eq_nil_of_le (by simp [h1]; omega), List.append_nil, Array.toArray_toList] at this
  exact this
/-- What such a literal is. -/
theorem sli_lit2 {S : Nat → Prop} (hE : EltX E k en) (x y : α) (w : World) (hS : S w.heap.size) : Sli k en S (w.alloc (.cells (en x ++ en y).toArray E)) (some ⟨w.heap.size, 0, none⟩) [x, y] 2 2 where
  len := rfl
  cap := Nat.le_refl _
  max := by unfold maxLen; omega
  none e := by cases e
  lst _ := ⟨w.heap.size, 0, rfl, hS, by simp, fun i z hi j u hj => by
    have hb : Blk (w.alloc (.cells (en x ++ en y).toArray E)) w.heap.size E (en x ++ en y).toArray := Blk.new _ _ _
    have hjl := (List.getElem?_eq_some_iff.1 hj).1
    rcases i with _ | _ | i
    · simp only [List.getElem?_cons_zero, Option.some.injEq] at hi
      subst hi
      rw [hE.len] at hjl
      rw [Nat.zero_add, Nat.zero_mul, Nat.zero_add, hb.cell, List.getElem?_toArray, List.getElem?_append_left (by rw [hE.len]; exact hjl)]
      exact hj
    · simp only [List.getElem?_cons_succ, List.getElem?_cons_zero, Option.some.injEq] at hi
      subst hi
      rw [Nat.zero_add, Nat.zero_add, Nat.one_mul, hb.cell, List.getElem?_toArray, List.getElem?_append_right (by rw [hE.len]; omega), hE.len, Nat.add_sub_cancel_left]
      exact hj
    · simp at hi⟩
variable {ops : Array Oper} {Q : Exit → Act → World → Prop} {a : Act} {w : World} {rest : List Oper} {dst : Option Tmp} {ty : TypeId} {pos : String} {after : Array Edge} {o p : Operand} {x y : α} {v u : Value}
theorem wlit2 (hE : EltX E k en) (hu : Try.prog.underlying L = some (.slice E)) (hk : k ≤ 1000) (ho : a.eval o = v) (hp : a.eval p = u) (hv : v.cells.toList = en x) (hy : u.cells.toList = en y)
    (h : wpList Try.prog ops Q rest (a.put dst (.slice (some ⟨w.heap.size, 0, none⟩) 2 2)) (w.alloc (.cells (en x ++ en y).toArray E))) :
    wpList Try.prog ops Q (⟨dst, .buildSlice L 2 #[(0, o), (1, p)], ty, pos, after, none⟩ :: rest) a w := by
  have hm : (#[(0, o), (1, p)] : Array (Nat × Operand)).map (fun (i, x) => (i, a.eval x)) = #[(0, v), (1, u)] := by
    simp only [List.map_toArray, List.map_cons, List.map_nil, ho, hp]
  refine wpList_plain rfl fun K hK => ?_
  unfold Oper.wp execOp
  simp only [Sem.run_bind, hm, run_lit2 hE hu x y hv hy hk w, Result.andThen_ok, Sem.run_pure]
  exact hK _ _ h
end
end Go.Proofs.Ytclmdakgkiponaa
set_option maxRecDepth 100000
namespace Go.Proofs.Ytclmdakgkiponaa
open Go.RowKit
section
variable {P : Program} {ops : Array Oper}
/-- The operations in the order of the text, the k-th first. -/
def wpC (P : Program) (ops : Array Oper) (S : Nat → Value → Prop) (C : (Nat → Bool) → (Nat → Value) → World → Prop) (Q : (Nat → Value) → Act → Prop) : Nat → (Nat → Value) → List Oper → Act → Prop
  | _, vs, [], a => Q vs a
  | k, vs, o :: rest, a => ((Region.wanted o (yielded ops a.tmps) = true ∧ ∀ d w, d k = false → (∀ j, Region.waitsFor .any ops j k = true → d j = false) → (∀ j, Region.waitsFor .any ops k j = true → d j = true) → C d vs w →
      GivesE P o a w fun v w' => S k v ∧ C (upB d k) (updV vs k v) w') ∨
      (Region.wanted o (yielded ops a.tmps) = false ∧ S k undef ∧ (∀ d w, C d vs w → C (upB d k) (updV vs k undef) w))) ∧ (S k (vs k) → wpC P ops S C Q (k + 1) vs rest (a.put o.dst (vs k)))
theorem wpC_at {S : Nat → Value → Prop} {C : (Nat → Bool) → (Nat → Value) → World → Prop} {Qk : (Nat → Value) → Act → Prop} {vs : Nat → Value} (hS : ∀ j, S j (vs j)) : ∀ (l : List Oper) (k : Nat) (a : Act), wpC P ops S C Qk k vs l a →
    Qk vs (lexF l (fun i => vs (k + i)) l.length a) ∧ ∀ i o, l[i]? = some o →
      ((Region.wanted o (yielded ops (lexF l (fun i => vs (k + i)) i a).tmps) = true ∧ ∀ d w, d (k + i) = false → (∀ j, Region.waitsFor .any ops j (k + i) = true → d j = false) → (∀ j, Region.waitsFor .any ops (k + i) j = true → d j = true) → C d vs w →
        GivesE P o (lexF l (fun i => vs (k + i)) i a) w fun v w' => S (k + i) v ∧ C (upB d (k + i)) (updV vs (k + i) v) w') ∨
      (Region.wanted o (yielded ops (lexF l (fun i => vs (k + i)) i a).tmps) = false ∧ S (k + i) undef ∧ (∀ d w, C d vs w → C (upB d (k + i)) (updV vs (k + i) undef) w)))
  | [], k, a, h => ⟨h, fun i o hi => by simp at hi⟩
  | o :: l, k, a, h => by
    obtain ⟨h1, h2⟩ := h
    obtain ⟨hq, hs⟩ := wpC_at hS l (k + 1) _ (h2 (hS k))
    have e : (fun i => vs (k + 1 + i)) = fun i => vs (k + (i + 1)) := funext fun i => by rw [show k + 1 + i = k + (i + 1) by omega]
    rw [e] at hq hs
    refine ⟨?_, fun i o' hi => ?_⟩
    · rw [List.length_cons, lexF_cons]; exact hq
    · cases i with
      | zero =>
        simp only [List.getElem?_cons_zero, Option.some.injEq] at hi
        subst hi
        exact h1
      | succ i =>
        rw [lexF_cons, show k + (i + 1) = k + 1 + i by omega]
        exact hs i o' (by simpa using hi)
theorem wp_region_c {id : Nat} {Q : Exit → Act → World → Prop} {C : (Nat → Bool) → (Nat → Value) → World → Prop} {S : Nat → Value → Prop} {a : Act} {w : World} {l : List Oper} (n : Nat)
    (hm : P.follows .mixedOrders = true) (ht : tidy l.toArray = true) (hB : tailB l.toArray n = true)
    (v0 : Nat → Value) (h0 : ∀ j, S j (v0 j)) (hC : C (fun _ => false) v0 w.drew)
    (h : ∀ vs : Nat → Value, wpC P l.toArray S C (fun vs a' => ∀ d w', (∀ k, k < n → d k = true) → C d vs w' → wpList P l.toArray Q (l.drop n) a' w') 0 vs (l.take n) a) : (Code.region id l.toArray true).wp P Q a w := by
  refine region_coreE (Γ := {vs : Nat → Value // ∀ j, S j (vs j)}) (C := fun γ L w' => C (fun j => L.getD j false) γ.1 w' ∧ Closed l.toArray L) n hm ht hB ⟨v0, h0⟩
    ⟨by rw [show (fun j => (Array.replicate l.length false).getD j false) = fun _ => false from funext fun j => getD_replicate_false _ j]; exact hC, (fun j o _ hl => by rw [getD_replicate_false] at hl; cases hl)⟩ (fun γ => γ.1) ?_ ?_
  · intro i o hi γ L w' hsz hr ⟨hC', hcl⟩
    have hun := getD_both (mem_ready.1 hr).1
    have hlt : i < L.size := by
      obtain ⟨o', ho', _⟩ := (mem_ready.1 hr).2
      have := (Array.getElem?_eq_some_iff.1 ho').1
      simp at this; omega
    have hup : (fun j => (L.setIfInBounds i true).getD j false) = upB (fun j => L.getD j false) i := funext fun j => by
      unfold upB
      by_cases e : j = i
      · subst e; rw [if_pos rfl]; simp [hlt]
      · rw [if_neg e, getD_set_ne false (Ne.symm e)]
    have hcl2 := closed_set hcl hr
    have key := (wpC_at γ.2 (l.take n) 0 a (h γ.1)).2 i o hi
    simp only [Nat.zero_add] at key
    have hwait : ∀ j, Region.waitsFor .any l.toArray i j = true → L.getD j false = true := fun j hj => waits_ready hr hj
    have hnext : ∀ j, Region.waitsFor .any l.toArray j i = true → L.getD j false = false := fun j hj => by
      cases hx : L.getD j false with
      | false => rfl
      | true =>
        have := waits_closed hcl hx hj
        rw [hun] at this
        cases this
    have upd : ∀ v, S i v → ∀ j, S j (updV γ.1 i v j) := fun v hv j => by
      by_cases e : j = i
      · subst e; rw [updV_self]; exact hv
      · rw [updV_ne _ _ e]; exact γ.2 j
    have keep : ∀ v j, L.getD j false = true → γ.1 j = updV γ.1 i v j := fun v j hj => by
      have : j ≠ i := fun e => by subst e; rw [hun] at hj; cases hj
      rw [updV_ne _ _ this]
    rcases key with ⟨k1, k2⟩ | ⟨k1, k2, k3⟩
    · refine .inl ⟨k1, givesE_mono (k2 _ w' hun hnext hwait hC') fun v w2 ⟨h1, h2⟩ => ⟨⟨updV γ.1 i v, upd v h1⟩, keep v, updV_self _ _ _, ?_, hcl2⟩⟩
      rw [hup]; exact h2
    · refine .inr ⟨k1, ⟨updV γ.1 i undef, upd undef k2⟩, keep undef, updV_self _ _ _, ?_, hcl2⟩
      rw [hup]; exact k3 _ _ hC'
  · intro γ L w' hall ⟨hC', _⟩
    have key := (wpC_at γ.2 (l.take n) 0 a (h γ.1)).1
    have ez : (fun i => γ.1 (0 + i)) = γ.1 := funext fun i => by rw [Nat.zero_add]
    rw [ez] at key
    exact key _ w' hall hC'
end
open Go.ChangeShapes Go.WideShapes Go.ChangeAt
/-- A slice of so many elements. -/
def kSl (m : Nat) : Sp := ⟨fun v => ∃ (A : Option Addr) (c : Nat), v = .slice A m c, fun _ _ => True, .slice none m 0⟩
theorem kSl_ok (m : Nat) : (kSl m).ok := ⟨⟨none, 0, rfl⟩, fun _ _ _ _ _ => trivial⟩
/-- A map. -/
def kMp : Sp := ⟨fun v => ∃ r : Nat, v = .map (some r), fun _ _ => True, .map (some 0)⟩
theorem kMp_ok : kMp.ok := ⟨⟨0, rfl⟩, fun _ _ _ _ _ => trivial⟩
section
variable {α : Type} {k : Nat} {en : α → List Value} {E L : TypeId} {S : Nat → Prop} {w : World} {a : Act} {dst : Option Tmp} {ty : TypeId} {pos : String} {after : Array Edge} {gd : Option (Nat × Bool)} {R : Value → World → Prop} {o1 o2 : Operand} {v : Value} {l m : List α} {A : Option Addr} {n cap B : Nat}
/-- An append's result lies where the slice lay, or anew. -/
theorem run_appX_where (hE : EltX E k en) (hu : Try.prog.underlying L = some (.slice E)) (hown : OwnX E k en w B v l) (hm : Sli k en S w A m n cap) (hsz : l.length + n ≤ 1000000) (hk : k ≤ 1000) {v' : Value} {w' : World}
    (hr : (Builtin.append_ #[L, L] ty #[v, .slice A n cap]).run Try.prog w = .ok v' w') : v'.ownBlock = v.ownBlock ∨ v'.ownBlock = some w.heap.size := by
  obtain ⟨i, z, hi, hz, h1, h2, h3⟩ := hE.info
  cases A with
  | none =>
    obtain ⟨rfl, rfl⟩ := hm.none rfl
    rw [run_append_owned_none (P := Try.prog) w B L ty E i k hu hi v l.length _ hown] at hr
    cases hr
    exact .inl rfl
  | some ad =>
    have hbytes : (l.length + n) * i.bytes ≤ 140737488355328 := Nat.le_trans (Nat.mul_le_mul hsz (Nat.le_trans h2 (show 16 * k + 16 ≤ 16016 by omega))) (by omega)
    have hl1 : (m.flatMap en).length = n * i.size := by rw [flat_len hE.len, hm.len, h1]
    have hne := flat_read hE hm
    have hone : ∀ u ∈ m.flatMap en, u.oneCell' = true := fun u hu => by obtain ⟨x, _, hx⟩ := List.mem_flatMap.1 hu; exact hE.one x u hx
    rcases hown.2 with ⟨rfl, h0⟩ | ⟨g, c, cur, rfl, hB, hg, hnc, hcm, hcs, ht⟩
    · by_cases hn0 : n = 0
      · subst hn0
        have hn : m = [] := List.eq_nil_of_length_eq_zero hm.len
        subst hn
        left
        have hrun : (Builtin.append_ #[L, L] ty #[.slice none 0 0, .slice (some ad) 0 cap]).run Try.prog w = .ok (.slice none 0 0) w := by
          simp [Builtin.append_, run_underlying hu, sizeOf, typeInfo, hi, Builtin.lenOf, Builtin.firstCells, loadCells, loadCellsFrom]
        rw [hrun] at hr
        cases hr
        rfl
      · right
        rw [h0, Nat.zero_add] at hbytes
        have hrun := run_append_nil (P := Try.prog) w L ty E i z hu hi hz ad n cap _ hl1 hne (by omega) (by omega) (by omega)
        rw [hrun] at hr
        cases hr
        rfl
    · by_cases hroom : l.length + n ≤ c
      · left
        have hrun := run_append_room (P := Try.prog) w L ty E i hu hi g l.length c cur hg ad n cap _ hl1 hne hone hroom (by
          rw [h1, flat_len hE.len, hm.len, hcs, ← Nat.add_mul]; exact Nat.mul_le_mul_right k hroom)
        rw [hrun] at hr
        cases hr
        rfl
      · right
        have hown' : w.ownsRow B E i.size (.slice (some ⟨g, 0, none⟩) l.length c) l.length (l.flatMap en) := by rw [h1]; exact hown
        have holds : ∀ j u, (l.flatMap en)[j]? = some u → w.cell? ((⟨g, 0, none⟩ : Addr).add j) = some u := hown'.cells (g := g) rfl
        have hrun := run_append_grow (P := Try.prog) w L ty E i z hu hi hz ⟨g, 0, none⟩ l.length c (l.flatMap en) (by rw [flat_len hE.len, h1]) holds ad n cap _ hl1 hne (by omega) (by omega) (growslice_fits (by omega) hbytes)
        rw [hrun] at hr
        cases hr
        rfl
theorem gE_appW (hE : EltX E k en) (hu : Try.prog.underlying L = some (.slice E)) (hx : a.eval o1 = v) (hy : a.eval o2 = .slice A n cap) (hown : OwnX E k en w B v l) (hm : Sli k en S w A m n cap) (hsz : l.length + n ≤ 1000000) (hk : k ≤ 1000) (hB : B ≤ w.heap.size)
    (hR : ∀ v' w', OwnX E k en w' B v' (l ++ m) → w.grownBy w' v.ownBlock → (v'.ownBlock = v.ownBlock ∨ v'.ownBlock = some w.heap.size) → R v' w') :
    GivesE Try.prog ⟨dst, .call { callee := .builtin .append, args := #[o1, o2], argTypes := #[L, L] }, ty, pos, after, gd⟩ a w R := by
  obtain ⟨v', w', hr, h1, h2⟩ := run_appX (ty := ty) hE hu hown hm hsz hk hB
  have h3 := run_appX_where hE hu hown hm hsz hk hr
  unfold GivesE execOp
  simp only [resolve, invoke, builtin, Sem.run_bind, Sem.run_pure, Result.andThen_ok, List.map_toArray, List.map_cons, List.map_nil, hx, hy, hr]
  exact hR v' w' h1 h2 h3
end
/-- What holds in the midst of an append of one element to a slice of the member's own. -/
structure ApC {α : Type} (E : TypeId) (k : Nat) (en : α → List Value) (w0 : World) (vl : Value) (l : List α) (x : α) (d8 d9 : Bool) (v8 v9 : Value) (w' : World) : Prop where
  t : Turn (fun b => vl.ownBlock = some b) w0 w'
  b : d9 = false → Below w0.heap.size w0 w'
  lit : d8 = true → d9 = false → ∃ A c, v8 = .slice A 1 c ∧ Sli k en (fun b => w0.heap.size ≤ b) w' A [x] 1 c
  own : d9 = true → OwnX E k en w' 0 v9 (l ++ [x]) ∧ ∀ b, v9.ownBlock = some b → vl.ownBlock = some b ∨ w0.heap.size ≤ b
end Go.Proofs.Ytclmdakgkiponaa
set_option maxRecDepth 100000
namespace Go.Proofs.Ytclmdakgkiponaa
open Go.ChangeShapes Go.WideShapes Go.ChangeAt Go.RowKit
attribute [local go_sem] Gives GivesE
namespace GeM
/-- A number, and how many there are. -/
def prL (p : Int × Int) : List Value := [.int .i64 p.1, .int .i64 p.2]
theorem eltPr : EltX 49 2 prL where
  pos := by omega
  len := fun _ => rfl
  one p u hu := by
    simp only [prL, List.mem_cons, List.not_mem_nil, or_false] at hu
    rcases hu with rfl | rfl <;> rfl
  info := elt_info (by kernel_rfl) (by kernel_rfl) (by kernel_rfl)
theorem undPr : Try.prog.underlying 52 = some (.slice 49) := Try.underlying52
theorem tPr (p : Int × Int) : RowT 49 (#[Value.int .i64 p.1, .int .i64 p.2] : Array Value).size := ⟨by kernel_rfl, _, Try.underlying49, rfl⟩
/-- Is it a geometry, and is each number one of as many? -/
def thr (a b : Int) (l : List (Int × Int)) : Bool := decide (Good a b) && l.all fun p => decide (0 ≤ p.1 ∧ p.1 < p.2)
set_option maxHeartbeats 400000 in
theorem there_any {A : Option Addr} {l : List (Int × Int)} {n c : Nat} {S : Nat → Prop} (a b : Int) (w : World) (hl : Sli 2 prL S w A l n c) :
    Calls Try.prog 29 #[gv a b, .slice A n c] w fun e w' => e = .returned (.bool (thr a b l)) ∧ Below w.heap.size w w' := by
  have HL := hid hl
  have hn : n ≤ 9223372036854775807 := by have := hl.cap; have := hl.max; unfold maxLen at *; omega
  clear hl
  obtain ⟨q, hq⟩ : ∃ q, q = thr a b l := ⟨_, rfl⟩
  rw [← hq]
  have HQ := hid hq
  clear hq
  unfold gv
  go_enter Try.func29, Try.ntmps29
  go_wp2_with fail
  go_loopw [9] (fun u wr => ∃ k : Nat, u = .int .i64 k ∧ k ≤ n ∧ Hid (At w w.heap.size a b wr) ∧ Hid (∀ i y, i < k → l[i]? = some y → 0 ≤ y.1 ∧ y.1 < y.2)) (fun u _ => n - (intOf u).toNat)
  case atStart => exact ⟨0, rfl, by omega, hid (At.new w a b), hid fun i y hi => absurd hi (Nat.not_lt_zero _)⟩
  case round =>
    obtain ⟨k, rfl, hk, HA, HM⟩ := hrel
    by_cases hgo : k < n
    · have t1 : (k : Int) < n := by omega
      obtain ⟨y, hy⟩ : ∃ y, l[k]? = some y := ⟨_, List.getElem?_eq_getElem (by rw [HL.out.len]; exact hgo)⟩
      obtain ⟨g, o, rfl, _, hbl, hr⟩ := (HL.out.turn (Turn.of_new (S := fun _ => False) HA.out.bel) fun _ _ _ e => e).some hy
      have HY := hid hy
      have HR := hid hr
      clear hy hr
      obtain ⟨y1, y2⟩ := y
      by_cases hok : 0 ≤ y1 ∧ y1 < y2
      · obtain ⟨o1, o2⟩ := hok
        have t2 : ¬ y1 < 0 := by omega
        have t3 : ¬ y2 ≤ y1 := by omega
        go_wp2_with ((with_reducible apply ldR (cs := #[Value.int .i64 y1, Value.int .i64 y2]) (tPr (y1, y2))); rfl; exact HR.out)
        go_roundw
        case rel =>
          refine ⟨k + 1, by go_num, by omega, hid (HA.out.on (below_al _)), hid fun i x hi hx => ?_⟩
          by_cases e : i = k
          · rw [e, HY.out] at hx
            cases hx
            exact ⟨o1, o2⟩
          · exact HM.out i x (by omega) hx
        case measure => simp [intOf] <;> omega
      · have hf : thr a b l = false := by
          unfold thr
          rw [Bool.and_eq_false_iff]
          refine .inr (Bool.eq_false_iff.2 fun e => hok ?_)
          have := List.all_eq_true.1 e _ (List.mem_of_getElem? HY.out)
          exact of_decide_eq_true this
        have HF := hid hf
        clear hf
        have HB := hid ((HA.out.on (below_al (.cells #[Value.int .i64 y1, Value.int .i64 y2] 49))).bel)
        by_cases t2 : y1 < 0
        · go_wp2_with ((with_reducible apply ldR (cs := #[Value.int .i64 y1, Value.int .i64 y2]) (tPr (y1, y2))); rfl; exact HR.out)
          go_ret
          exact ⟨by rw [HQ.out, HF.out]; rfl, HB.out⟩
        · have t3 : y2 ≤ y1 := by omega
          go_wp2_with ((with_reducible apply ldR (cs := #[Value.int .i64 y1, Value.int .i64 y2]) (tPr (y1, y2))); rfl; exact HR.out)
          go_ret
          exact ⟨by rw [HQ.out, HF.out]; rfl, HB.out⟩
    · have t1 : ¬ (k : Int) < n := by omega
      have hall : (l.all fun p => decide (0 ≤ p.1 ∧ p.1 < p.2)) = true := List.all_eq_true.2 fun x hx => by
        obtain ⟨i, hi⟩ := List.getElem?_of_mem hx
        exact decide_eq_true (HM.out i x (by have := (List.getElem?_eq_some_iff.1 hi).1; rw [HL.out.len] at this; omega) hi)
      have HT := hid (show thr a b l = decide (Good a b) by unfold thr; rw [hall, Bool.and_true])
      clear hall
      go_wp2_with ((with_reducible apply ldR (cs := #[Value.int .i64 a, .int .i64 b]) (tGe _ _)); rfl; exact HA.out.blk.whole)
      refine (check_any _ _ _).mono ?_
      rintro e w1 ⟨rfl, h1⟩
      have A1 := hid (HA.out.on h1)
      clear h1 HA
      by_cases hg : Good a b
      · rw [if_pos hg]
        go_wp2_with fail
        go_ret
        exact ⟨by rw [HQ.out, HT.out, decide_eq_true hg]; rfl, A1.out.bel⟩
      · rw [if_neg hg]
        go_wp2_with fail
        go_ret
        exact ⟨by rw [HQ.out, HT.out, decide_eq_false hg]; rfl, A1.out.bel⟩
theorem thr_two {a b r n : Int} : thr a b [(r, b), (n, a)] = decide (Ok a b r n) := by
  rw [Bool.eq_iff_iff, decide_eq_true_iff]
  unfold thr Ok
  simp [and_assoc]
theorem thr_one {a b n : Int} {k : Nat} : thr a b [(n, (k : Int))] = decide (Om a b n k) := by
  rw [Bool.eq_iff_iff, decide_eq_true_iff]
  unfold thr Om
  simp
theorem al_size (w : World) (o : Obj) : (w.alloc o).heap.size = w.heap.size + 1 := by simp
theorem two_pr {w : World} {h : Nat} (p q : Int × Int) (e : w.heap.size = h) : Sli 2 prL (fun _ => True) (w.alloc (.cells (prL p ++ prL q).toArray 49)) (some ⟨h, 0, none⟩) [p, q] 2 2 := by
  subst e
  exact sli_lit2 eltPr p q w trivial
set_option maxHeartbeats 400000 in
theorem data_any (m b : Nat) (h : 2 ≤ m ∧ m ≤ 64) (w : World) : Calls Try.prog 31 #[gv m b] w fun e w' => e = .returned (.int .i64 ((m - 2 : Nat) : Int)) ∧ Below w.heap.size w w' := by
  unfold gv
  go_enter Try.func31, Try.ntmps31
  go_wp2_with fail
  go_ret
  exact ⟨ret_i (by omega), below_al _⟩
set_option maxHeartbeats 400000 in
theorem column_any (a b r n : Int) (w : World) : Calls Try.prog 10 #[gv a b, .int .i64 r, .int .i64 n] w fun e w' => e = .returned (v2 (colP a b r n)) ∧ Below w.heap.size w w' := by
  unfold gv
  go_enter Try.func10, Try.ntmps10
  go_wp2_with (first | ((with_reducible apply ldR (cs := #[Value.int .i64 a, .int .i64 b]) (tGe _ _)); rfl; exact (At.new w a b).blk.whole) | ((with_reducible apply wlit2 eltPr undPr (x := (r, b)) (y := (n, a))); omega; rfl; rfl; rfl; rfl))
  refine (there_any (S := fun _ => True) a b _ (two_pr (r, b) (n, a) (al_size _ _))).mono ?_
  rintro e w1 ⟨rfl, h1⟩
  rw [thr_two]
  have A1 := hid (((At.new w a b).on (below_al _)).on h1)
  clear h1
  by_cases h : Ok a b r n
  · rw [decide_eq_true h]
    obtain ⟨m, q, x, y, rfl, rfl, rfl, rfl, hg, hx, hy⟩ := ok_nat h
    have HP := hid (colP_ok hg hx hy)
    have hb := r_bd hg
    have q0 := A1.out.c0
    have q1 := A1.out.c1
    have e1 : wrap64 ((y : Int) + (x : Int)) = ((y + x : Nat) : Int) := by rw [IntWalk.wrap64_in _ (by omega)]; omega
    have hm : (m : Int) ≠ 0 := by omega
    clear h hg
    go_wp2_with fail
    go_ret2
    exact ⟨by rw [HP.out]; rfl, A1.out.bel⟩
  · rw [decide_eq_false h]
    have H := hid (colP_no h)
    clear h
    go_wp2_with fail
    go_ret2
    exact ⟨by rw [H.out]; rfl, A1.out.bel⟩
set_option maxHeartbeats 400000 in
theorem number_any (a b r n : Int) (w : World) : Calls Try.prog 15 #[gv a b, .int .i64 r, .int .i64 n] w fun e w' => e = .returned (v2 (numP a b r n)) ∧ Below w.heap.size w w' := by
  unfold gv
  go_enter Try.func15, Try.ntmps15
  go_wp2_with (first | ((with_reducible apply ldR (cs := #[Value.int .i64 a, .int .i64 b]) (tGe _ _)); rfl; exact (At.new w a b).blk.whole) | ((with_reducible apply wlit2 eltPr undPr (x := (r, b)) (y := (n, a))); omega; rfl; rfl; rfl; rfl))
  refine (there_any (S := fun _ => True) a b _ (two_pr (r, b) (n, a) (al_size _ _))).mono ?_
  rintro e w1 ⟨rfl, h1⟩
  rw [thr_two]
  have A1 := hid (((At.new w a b).on (below_al _)).on h1)
  clear h1
  by_cases h : Ok a b r n
  · rw [decide_eq_true h]
    obtain ⟨m, q, x, y, rfl, rfl, rfl, rfl, hg, hx, hy⟩ := ok_nat h
    have hb := r_bd hg
    have HG := hid hg
    have HX := hid hx
    have HY := hid hy
    clear h hg
    have D1 := hid (data_any m q (by omega))
    by_cases h2 : y + 2 < m
    · have HP := hid (numP_ok HG.out HX.out HY.out h2)
      have hb2 := Nat.mul_le_mul (show x ≤ 64 by omega) (show m - 2 ≤ 64 by omega)
      obtain ⟨z, hz⟩ : ∃ z, z = x * (m - 2) := ⟨_, rfl⟩
      obtain ⟨d, hd⟩ : ∃ d, d = m - 2 := ⟨_, rfl⟩
      rw [← hz] at hb2
      have Z := hid (show z = x * (m - 2) from hz)
      have hyd : y < d := by omega
      have e1 : wrap64 ((x : Int) * (d : Int)) = (z : Int) := by rw [hd, hz, ← Int.natCast_mul, ← hz]; exact IntWalk.wrap64_in _ (by omega)
      have e3 : wrap64 ((z : Int) + (y : Int)) = (z : Int) + y := IntWalk.wrap64_in _ (by omega)
      have t1 : ¬ (d : Int) ≤ y := by omega
      have E1 := hid e1
      have E3 := hid e3
      rw [← hd] at D1
      clear hz hd e1 e3
      go_wp2_with ((with_reducible apply ldR (cs := #[Value.int .i64 m, .int .i64 q]) (tGe _ _)); rfl; exact A1.out.blk.whole)
      refine (D1.out _).mono ?_
      rintro e w2 ⟨rfl, h2⟩
      have A2 := hid (A1.out.on h2)
      clear h2 A1
      go_wp2_with ((with_reducible apply ldR (cs := #[Value.int .i64 m, .int .i64 q]) (tGe _ _)); rfl; exact A2.out.blk.whole)
      refine (D1.out _).mono ?_
      rintro e w3 ⟨rfl, h3⟩
      have A3 := hid (A2.out.on h3)
      clear h3 A2
      have e1 := E1.out
      have e3 := E3.out
      go_wp2_with fail
      go_ret2
      exact ⟨by rw [HP.out, ← Z.out]; rfl, A3.out.bel⟩
    · have HP := hid (numP_pq HG.out HX.out HY.out h2)
      have t1 : ((m - 2 : Nat) : Int) ≤ y := by omega
      obtain ⟨d, hd⟩ : ∃ d, d = m - 2 := ⟨_, rfl⟩
      rw [← hd] at D1 t1
      clear hd
      go_wp2_with ((with_reducible apply ldR (cs := #[Value.int .i64 m, .int .i64 q]) (tGe _ _)); rfl; exact A1.out.blk.whole)
      refine (D1.out _).mono ?_
      rintro e w2 ⟨rfl, h2⟩
      have A2 := hid (A1.out.on h2)
      clear h2 A1
      go_wp2_with fail
      go_ret2
      exact ⟨by rw [HP.out]; rfl, A2.out.bel⟩
  · rw [decide_eq_false h]
    have H := hid (numP_no h)
    clear h
    go_wp2_with fail
    go_ret2
    exact ⟨by rw [H.out]; rfl, A1.out.bel⟩
set_option maxHeartbeats 400000 in
theorem leaf_any (a b r n : Int) (w : World) : Calls Try.prog 17 #[gv a b, .int .i64 r, .int .i64 n] w fun e w' => e = .returned (v2 (lefP a b r n)) ∧ Below w.heap.size w w' := by
  unfold gv
  go_enter Try.func17, Try.ntmps17
  go_wp2_with (first | ((with_reducible apply ldR (cs := #[Value.int .i64 a, .int .i64 b]) (tGe _ _)); rfl; exact (At.new w a b).blk.whole) | ((with_reducible apply wlit2 eltPr undPr (x := (r, b)) (y := (n, a))); omega; rfl; rfl; rfl; rfl))
  refine (there_any (S := fun _ => True) a b _ (two_pr (r, b) (n, a) (al_size _ _))).mono ?_
  rintro e w1 ⟨rfl, h1⟩
  rw [thr_two]
  have A1 := hid (((At.new w a b).on (below_al _)).on h1)
  clear h1
  by_cases h : Ok a b r n
  · rw [decide_eq_true h]
    obtain ⟨m, q, x, y, rfl, rfl, rfl, rfl, hg, hx, hy⟩ := ok_nat h
    have HP := hid (lefP_ok hg hx hy)
    have hb := r_bd hg
    have q0 := A1.out.c0
    have q1 := A1.out.c1
    have hb2 := Nat.mul_le_mul (show x ≤ 64 by omega) (show m ≤ 64 by omega)
    obtain ⟨z, hz⟩ : ∃ z, z = x * m := ⟨_, rfl⟩
    rw [← hz] at hb2
    have Z := hid hz
    have e1 : wrap64 ((x : Int) * (m : Int)) = (z : Int) := by rw [hz, ← Int.natCast_mul, ← hz]; exact IntWalk.wrap64_in _ (by omega)
    have e3 : wrap64 ((z : Int) + (y : Int)) = (z : Int) + y := IntWalk.wrap64_in _ (by omega)
    clear hz
    clear h hg
    go_wp2_with fail
    go_ret2
    exact ⟨by rw [HP.out, ← Z.out]; rfl, A1.out.bel⟩
  · rw [decide_eq_false h]
    have H := hid (lefP_no h)
    clear h
    go_wp2_with fail
    go_ret2
    exact ⟨by rw [H.out]; rfl, A1.out.bel⟩
set_option maxHeartbeats 400000 in
theorem member_any (a b r n : Int) (w : World) : Calls Try.prog 12 #[gv a b, .int .i64 r, .int .i64 n] w fun e w' => e = .returned (v2 (memP a b r n)) ∧ Below w.heap.size w w' := by
  unfold gv
  go_enter Try.func12, Try.ntmps12
  go_wp2_with (first | ((with_reducible apply ldR (cs := #[Value.int .i64 a, .int .i64 b]) (tGe _ _)); rfl; exact (At.new w a b).blk.whole) | ((with_reducible apply wlit2 eltPr undPr (x := (r, b)) (y := (n, a))); omega; rfl; rfl; rfl; rfl))
  refine (there_any (S := fun _ => True) a b _ (two_pr (r, b) (n, a) (al_size _ _))).mono ?_
  rintro e w1 ⟨rfl, h1⟩
  rw [thr_two]
  have A1 := hid (((At.new w a b).on (below_al _)).on h1)
  clear h1
  by_cases h : Ok a b r n
  · rw [decide_eq_true h]
    obtain ⟨m, q, x, y, rfl, rfl, rfl, rfl, hg, hx, hy⟩ := ok_nat h
    have HP := hid (memP_ok hg hx hy)
    have hb := r_bd hg
    have q0 := A1.out.c0
    have q1 := A1.out.c1
    have hm : (m : Int) ≠ 0 := by omega
    obtain ⟨z, hz⟩ : ∃ z, z = x % m := ⟨_, rfl⟩
    have zl : z < m := by rw [hz]; exact Nat.mod_lt _ (by omega)
    have Z := hid hz
    obtain ⟨u, hu⟩ : ∃ u, u = y + (m - z) := ⟨_, rfl⟩
    obtain ⟨v, hv⟩ : ∃ v, v = u % m := ⟨_, rfl⟩
    have e1 : (x : Int).tmod (m : Int) = (z : Nat) := by rw [hz]; exact (Int.ofNat_tmod x m).symm
    have e2 : IntKind.i64.wrap ((y : Int) - (z : Int)) = (y : Int) - z := IntWalk.i64_in _ (by omega)
    have e3 : IntKind.i64.wrap ((y : Int) - (z : Int) + (m : Int)) = (u : Int) := by rw [IntWalk.i64_in _ (by omega)]; omega
    have e4 : (u : Int).tmod (m : Int) = (v : Nat) := by rw [hv]; exact (Int.ofNat_tmod u m).symm
    have hm0 : ¬ m = 0 := by omega
    have E4 := hid e4
    have V := hid (show v = mem m x y by rw [hv, hu, hz, mem])
    have E1 := hid e1
    have E2 := hid e2
    have E3 := hid e3
    clear h hg hz hu hv e1 e2 e3 e4 q0 q1
    go_wp2_with fail
    refine wp_region_tail (C := At w w.heap.size m q) 12 (by kernel_rfl) (by kernel_rfl) (by kernel_rfl) A1.out.drew ?_
    simp only [List.take_succ_cons, List.take_zero, List.drop_succ_cons, List.drop_zero]
    apply wpK_val
    · rfl
    · intro w' hw'
      go_simp
      first | exact rfl | exact ⟨rfl, hw'⟩
    simp only [Act.put, List.setIfInBounds_toArray, List.set_cons_succ, List.set_cons_zero]
    apply wpK_val
    · rfl
    · intro w' hw'
      go_simp
      first | exact rfl | exact ⟨rfl, hw'⟩
    simp only [Act.put, List.setIfInBounds_toArray, List.set_cons_succ, List.set_cons_zero]
    apply wpK_val
    · rfl
    · intro w' hw'
      go_simp
      first | exact rfl | exact ⟨rfl, hw'⟩
    simp only [Act.put, List.setIfInBounds_toArray, List.set_cons_succ, List.set_cons_zero]
    apply wpK_val
    · rfl
    · intro w' hw'
      have hcell := hw'.c0
      go_simp
      first | exact rfl | exact ⟨rfl, hw'⟩
    simp only [Act.put, List.setIfInBounds_toArray, List.set_cons_succ, List.set_cons_zero]
    apply wpK_val
    · rfl
    · intro w' hw'
      have h1 : _ = _ := E1.out
      go_simp
      first | exact rfl | exact ⟨rfl, hw'⟩
    simp only [Act.put, List.setIfInBounds_toArray, List.set_cons_succ, List.set_cons_zero]
    apply wpK_val
    · rfl
    · intro w' hw'
      have h1 : _ = _ := E2.out
      go_simp
      first | exact rfl | exact ⟨rfl, hw'⟩
    simp only [Act.put, List.setIfInBounds_toArray, List.set_cons_succ, List.set_cons_zero]
    apply wpK_val
    · rfl
    · intro w' hw'
      go_simp
      first | exact rfl | exact ⟨rfl, hw'⟩
    simp only [Act.put, List.setIfInBounds_toArray, List.set_cons_succ, List.set_cons_zero]
    apply wpK_val
    · rfl
    · intro w' hw'
      have hcell := hw'.c0
      go_simp
      first | exact rfl | exact ⟨rfl, hw'⟩
    simp only [Act.put, List.setIfInBounds_toArray, List.set_cons_succ, List.set_cons_zero]
    apply wpK_val
    · rfl
    · intro w' hw'
      have h1 : _ = _ := E3.out
      go_simp
      first | exact rfl | exact ⟨rfl, hw'⟩
    simp only [Act.put, List.setIfInBounds_toArray, List.set_cons_succ, List.set_cons_zero]
    apply wpK_val
    · rfl
    · intro w' hw'
      go_simp
      first | exact rfl | exact ⟨rfl, hw'⟩
    simp only [Act.put, List.setIfInBounds_toArray, List.set_cons_succ, List.set_cons_zero]
    apply wpK_val
    · rfl
    · intro w' hw'
      have hcell := hw'.c0
      go_simp
      first | exact rfl | exact ⟨rfl, hw'⟩
    simp only [Act.put, List.setIfInBounds_toArray, List.set_cons_succ, List.set_cons_zero]
    apply wpK_val
    · rfl
    · intro w' hw'
      have h1 : _ = _ := E4.out
      go_simp
      first | exact rfl | exact ⟨rfl, hw'⟩
    simp only [Act.put, List.setIfInBounds_toArray, List.set_cons_succ, List.set_cons_zero]
    refine wpK_nil fun w5 hw5 => ?_
    have A5 := hid hw5
    clear hw5
    go_wp2_with fail
    go_ret2
    exact ⟨by rw [HP.out, ← V.out]; rfl, A5.out.bel⟩
  · rw [decide_eq_false h]
    have H := hid (memP_no h)
    clear h
    go_wp2_with fail
    go_ret2
    exact ⟨by rw [H.out]; rfl, A1.out.bel⟩
theorem gE_ldG {a : Act} {w : World} {dst : Option Tmp} {ty T : TypeId} {pos : String} {after : Array Edge} {x : Operand} {gd : Option (Nat × Bool)} {R : Value → World → Prop} {g o : Nat} {cs : Array Value}
    (hT : RowT T cs.size) (hx : a.eval x = .pointer (some ⟨g, o, none⟩)) (hb : w.rangeAt g o cs.toList) (hR : R (.agg cs) w) : GivesE Try.prog ⟨dst, .load T x, ty, pos, after, gd⟩ a w R := by
  unfold GivesE
  simp only [execOp, hx, Sem.run_bind, run_ldR hT hb, Result.andThen_ok, Sem.run_pure]
  exact hR
/-- A geometry, and a literal of one pair, once it has come up. -/
structure LitC (B : World) (g : Nat) (a b : Int) (p : Int × Int) (d5 : Bool) (v5 : Value) (w : World) : Prop where
  at' : At B g a b w
  lit : d5 = true → ∃ A c, v5 = .slice A 1 c ∧ Sli 2 prL (fun _ => True) w A [p] 1 c
theorem LitC.on {B : World} {g : Nat} {a b : Int} {p : Int × Int} {d5 : Bool} {v5 : Value} {w w' : World} (h : LitC B g a b p d5 v5 w) (hb : Below w.heap.size w w') : LitC B g a b p d5 v5 w' :=
  ⟨h.at'.on hb, fun e => by
    obtain ⟨A, c, h1, h2⟩ := h.lit e
    exact ⟨A, c, h1, h2.turn (Turn.of_new (S := fun _ => False) hb) fun _ _ _ e => e⟩⟩
set_option maxHeartbeats 400000 in
theorem of_at (a b n : Int) (w : World) : Calls Try.prog 19 #[gv a b, .int .i64 n] w fun e w' => e = .returned (v3 (ofP a b n)) ∧ Below w.heap.size w w' := by
  obtain ⟨k, hk⟩ : ∃ k, k = L lo a b := ⟨_, rfl⟩
  have K := hid hk
  have LA := hid (logical_any a b)
  rw [← hk] at LA
  clear hk
  unfold gv
  go_enter Try.func19, Try.ntmps19
  go_wp2_with fail
  refine wp_region_c (S := yS [some (gv a b), some (.int .i64 n), some (gv a b), some (.int .i64 (k : Nat)), some (.agg #[.int .i64 n, .int .i64 (k : Nat)])] [(5, kSl 1)]) (C := fun d vs w' => LitC w w.heap.size a b (n, (k : Int)) (d 5) (vs 5) w') 6 (by kernel_rfl) (by kernel_rfl) (by kernel_rfl) _
    (yS_ok _ fun y hy => by simp only [List.mem_cons, List.not_mem_nil, or_false] at hy; subst hy; exact kSl_ok _) ⟨(At.new w a b).drew, (fun e => by cases e)⟩ fun vs => ?_
  simp only [List.take_succ_cons, List.take_zero, List.drop_succ_cons, List.drop_zero]
  refine ⟨.inl ⟨rfl, fun dd w' hd hnx hw hC => ?_⟩, fun e => ?_⟩
  · exact gE_ldG (cs := #[Value.int .i64 a, .int .i64 b]) (tGe a b) rfl hC.at'.blk.whole ⟨rfl, hC⟩
  have e' : vs 0 = _ := e
  rw [e']
  clear e e'
  simp only [Act.put, List.setIfInBounds_toArray, List.set_cons_succ, List.set_cons_zero]
  refine ⟨.inl ⟨rfl, fun dd w' hd hnx hw hC => ?_⟩, fun e => ?_⟩
  · go_simp
    first | exact ⟨rfl, hC⟩ | exact hC
  have e' : vs 1 = _ := e
  rw [e']
  clear e e'
  simp only [Act.put, List.setIfInBounds_toArray, List.set_cons_succ, List.set_cons_zero]
  refine ⟨.inl ⟨rfl, fun dd w' hd hnx hw hC => ?_⟩, fun e => ?_⟩
  · exact gE_ldG (cs := #[Value.int .i64 a, .int .i64 b]) (tGe a b) rfl hC.at'.blk.whole ⟨rfl, hC⟩
  have e' : vs 2 = _ := e
  rw [e']
  clear e e'
  simp only [Act.put, List.setIfInBounds_toArray, List.set_cons_succ, List.set_cons_zero]
  refine ⟨.inl ⟨rfl, fun dd w' hd hnx hw hC => ?_⟩, fun e => ?_⟩
  · go_simp
    refine (LA.out w').mono ?_
    rintro e w2 ⟨rfl, h2⟩
    exact ⟨_, rfl, rfl, hC.on h2⟩
  have e' : vs 3 = _ := e
  rw [e']
  clear e e'
  simp only [Act.put, List.setIfInBounds_toArray, List.set_cons_succ, List.set_cons_zero]
  refine ⟨.inl ⟨rfl, fun dd w' hd hnx hw hC => ?_⟩, fun e => ?_⟩
  · go_simp
    first | exact ⟨rfl, hC⟩ | exact hC
  have e' : vs 4 = _ := e
  rw [e']
  clear e e'
  simp only [Act.put, List.setIfInBounds_toArray, List.set_cons_succ, List.set_cons_zero]
  refine ⟨.inl ⟨rfl, fun dd w' hd hnx hw hC => ?_⟩, fun e => ?_⟩
  · have ha := (Below.refl w'.heap.size w').alloc (Nat.le_refl _) (.cells (prL (n, (k : Int))).toArray 49)
    exact gE_lit1 (x := (n, (k : Int))) eltPr undPr (by omega) rfl rfl ⟨⟨_, _, rfl⟩, hC.at'.on ha, fun _ => ⟨_, _, rfl, sli_lit1 eltPr (n, (k : Int)) w' trivial⟩⟩
  obtain ⟨A7, c7, e'⟩ : ∃ (A : Option Addr) (c : Nat), vs 5 = .slice A 1 c := e
  rw [e']
  have E7 := hid e'
  clear e'
  simp only [Act.put, List.setIfInBounds_toArray, List.set_cons_succ, List.set_cons_zero]
  intro dd w1 hall hC
  have A1 := hid hC.at'
  obtain ⟨A2, c2, e2, l2⟩ := hC.lit (hall 5 (by omega))
  rw [E7.out] at e2
  cases e2
  have L2 := hid l2
  clear hC l2 hall E7
  go_wp2_with fail
  refine (there_any a b _ L2.out).mono ?_
  rintro e w3 ⟨rfl, h3⟩
  rw [thr_one]
  have A3 := hid (A1.out.on h3)
  clear h3 A1 L2
  by_cases h : Om a b n k
  · rw [decide_eq_true h]
    have h' := h
    rw [K.out] at h'
    obtain ⟨m, q, y, rfl, rfl, rfl, hg, hy⟩ := om_nat h'
    have hy' : y < lo m q := by rwa [L_good hg] at hy
    have HP := hid (ofP_ok hg hy')
    have hb := r_bd hg
    have hlo := lo_bd hg
    obtain ⟨d, hd⟩ : ∃ d, d = m - 2 := ⟨_, rfl⟩
    rw [← hd] at HP
    have D1 := hid (data_any m q (by omega))
    rw [← hd] at D1
    have hd0 : ¬ d = 0 := by omega
    obtain ⟨s, hs⟩ : ∃ s, s = y / d := ⟨_, rfl⟩
    obtain ⟨t, ht⟩ : ∃ t, t = y % d := ⟨_, rfl⟩
    have hs1 : s ≤ y := by rw [hs]; exact Nat.div_le_self _ _
    have E1 := hid (show (y : Int).tdiv (d : Int) = (s : Int) by rw [hs]; exact (Int.ofNat_tdiv y d).symm)
    have E2 := hid (show (y : Int).tmod (d : Int) = (t : Int) by rw [ht]; exact (Int.ofNat_tmod y d).symm)
    have E3 := hid (show IntKind.i64.wrap (s : Int) = (s : Int) from IntWalk.i64_in _ (by omega))
    rw [← hs, ← ht] at HP
    clear h h' hg hy hy' hs ht hb hlo hs1 hd
    go_wp2_with fail
    refine wp_region_tail (C := At w w.heap.size m q) 9 (by kernel_rfl) (by kernel_rfl) (by kernel_rfl) A3.out.drew ?_
    simp only [List.take_succ_cons, List.take_zero, List.drop_succ_cons, List.drop_zero]
    apply wpK_val
    · rfl
    · intro w' hw'
      go_simp
      first | exact rfl | exact ⟨rfl, hw'⟩
    simp only [Act.put, List.setIfInBounds_toArray, List.set_cons_succ, List.set_cons_zero]
    apply kldR (tGe _ _)
    · rfl
    · rfl
    · exact fun w' hw' => hw'.blk.whole
    simp only [Act.put, List.setIfInBounds_toArray, List.set_cons_succ, List.set_cons_zero]
    apply wpK_val
    · rfl
    · intro w' hw'
      go_simp
      exact (D1.out w').mono fun e w5 h => ⟨h.1, hw'.on h.2⟩
    simp only [Act.put, List.setIfInBounds_toArray, List.set_cons_succ, List.set_cons_zero]
    apply wpK_val
    · rfl
    · intro w' hw'
      have h1 : _ = _ := E1.out
      have h2 : _ = _ := E3.out
      go_simp
      first | exact rfl | exact ⟨rfl, hw'⟩
    simp only [Act.put, List.setIfInBounds_toArray, List.set_cons_succ, List.set_cons_zero]
    apply wpK_val
    · rfl
    · intro w' hw'
      go_simp
      first | exact rfl | exact ⟨rfl, hw'⟩
    simp only [Act.put, List.setIfInBounds_toArray, List.set_cons_succ, List.set_cons_zero]
    apply kldR (tGe _ _)
    · rfl
    · rfl
    · exact fun w' hw' => hw'.blk.whole
    simp only [Act.put, List.setIfInBounds_toArray, List.set_cons_succ, List.set_cons_zero]
    apply wpK_val
    · rfl
    · intro w' hw'
      go_simp
      exact (D1.out w').mono fun e w5 h => ⟨h.1, hw'.on h.2⟩
    simp only [Act.put, List.setIfInBounds_toArray, List.set_cons_succ, List.set_cons_zero]
    apply wpK_val
    · rfl
    · intro w' hw'
      have h1 : _ = _ := E2.out
      go_simp
      first | exact rfl | exact ⟨rfl, hw'⟩
    simp only [Act.put, List.setIfInBounds_toArray, List.set_cons_succ, List.set_cons_zero]
    apply wpK_val
    · rfl
    · intro w' hw'
      go_simp
      first | exact rfl | exact ⟨rfl, hw'⟩
    simp only [Act.put, List.setIfInBounds_toArray, List.set_cons_succ, List.set_cons_zero]
    refine wpK_nil fun w5 hw5 => ?_
    have A5 := hid hw5
    clear hw5
    go_wp2_with fail
    go_ret3
    exact ⟨by rw [HP.out]; rfl, A5.out.bel⟩
  · rw [decide_eq_false h]
    rw [K.out] at h
    have H := hid (ofP_no h)
    clear h
    go_wp2_with fail
    go_ret3
    exact ⟨by rw [H.out]; rfl, A3.out.bel⟩
set_option maxHeartbeats 400000 in
theorem at_any (a b n : Int) (w : World) : Calls Try.prog 21 #[gv a b, .int .i64 n] w fun e w' => e = .returned (v3 (atP a b n)) ∧ Below w.heap.size w w' := by
  obtain ⟨k, hk⟩ : ∃ k, k = L lv a b := ⟨_, rfl⟩
  have K := hid hk
  have LA := hid (leaves_any a b)
  rw [← hk] at LA
  clear hk
  unfold gv
  go_enter Try.func21, Try.ntmps21
  go_wp2_with fail
  refine wp_region_c (S := yS [some (gv a b), some (.int .i64 n), some (gv a b), some (.int .i64 (k : Nat)), some (.agg #[.int .i64 n, .int .i64 (k : Nat)])] [(5, kSl 1)]) (C := fun d vs w' => LitC w w.heap.size a b (n, (k : Int)) (d 5) (vs 5) w') 6 (by kernel_rfl) (by kernel_rfl) (by kernel_rfl) _
    (yS_ok _ fun y hy => by simp only [List.mem_cons, List.not_mem_nil, or_false] at hy; subst hy; exact kSl_ok _) ⟨(At.new w a b).drew, (fun e => by cases e)⟩ fun vs => ?_
  simp only [List.take_succ_cons, List.take_zero, List.drop_succ_cons, List.drop_zero]
  refine ⟨.inl ⟨rfl, fun dd w' hd hnx hw hC => ?_⟩, fun e => ?_⟩
  · exact gE_ldG (cs := #[Value.int .i64 a, .int .i64 b]) (tGe a b) rfl hC.at'.blk.whole ⟨rfl, hC⟩
  have e' : vs 0 = _ := e
  rw [e']
  clear e e'
  simp only [Act.put, List.setIfInBounds_toArray, List.set_cons_succ, List.set_cons_zero]
  refine ⟨.inl ⟨rfl, fun dd w' hd hnx hw hC => ?_⟩, fun e => ?_⟩
  · go_simp
    first | exact ⟨rfl, hC⟩ | exact hC
  have e' : vs 1 = _ := e
  rw [e']
  clear e e'
  simp only [Act.put, List.setIfInBounds_toArray, List.set_cons_succ, List.set_cons_zero]
  refine ⟨.inl ⟨rfl, fun dd w' hd hnx hw hC => ?_⟩, fun e => ?_⟩
  · exact gE_ldG (cs := #[Value.int .i64 a, .int .i64 b]) (tGe a b) rfl hC.at'.blk.whole ⟨rfl, hC⟩
  have e' : vs 2 = _ := e
  rw [e']
  clear e e'
  simp only [Act.put, List.setIfInBounds_toArray, List.set_cons_succ, List.set_cons_zero]
  refine ⟨.inl ⟨rfl, fun dd w' hd hnx hw hC => ?_⟩, fun e => ?_⟩
  · go_simp
    refine (LA.out w').mono ?_
    rintro e w2 ⟨rfl, h2⟩
    exact ⟨_, rfl, rfl, hC.on h2⟩
  have e' : vs 3 = _ := e
  rw [e']
  clear e e'
  simp only [Act.put, List.setIfInBounds_toArray, List.set_cons_succ, List.set_cons_zero]
  refine ⟨.inl ⟨rfl, fun dd w' hd hnx hw hC => ?_⟩, fun e => ?_⟩
  · go_simp
    first | exact ⟨rfl, hC⟩ | exact hC
  have e' : vs 4 = _ := e
  rw [e']
  clear e e'
  simp only [Act.put, List.setIfInBounds_toArray, List.set_cons_succ, List.set_cons_zero]
  refine ⟨.inl ⟨rfl, fun dd w' hd hnx hw hC => ?_⟩, fun e => ?_⟩
  · have ha := (Below.refl w'.heap.size w').alloc (Nat.le_refl _) (.cells (prL (n, (k : Int))).toArray 49)
    exact gE_lit1 (x := (n, (k : Int))) eltPr undPr (by omega) rfl rfl ⟨⟨_, _, rfl⟩, hC.at'.on ha, fun _ => ⟨_, _, rfl, sli_lit1 eltPr (n, (k : Int)) w' trivial⟩⟩
  obtain ⟨A7, c7, e'⟩ : ∃ (A : Option Addr) (c : Nat), vs 5 = .slice A 1 c := e
  rw [e']
  have E7 := hid e'
  clear e'
  simp only [Act.put, List.setIfInBounds_toArray, List.set_cons_succ, List.set_cons_zero]
  intro dd w1 hall hC
  have A1 := hid hC.at'
  obtain ⟨A2, c2, e2, l2⟩ := hC.lit (hall 5 (by omega))
  rw [E7.out] at e2
  cases e2
  have L2 := hid l2
  clear hC l2 hall E7
  go_wp2_with fail
  refine (there_any a b _ L2.out).mono ?_
  rintro e w3 ⟨rfl, h3⟩
  rw [thr_one]
  have A3 := hid (A1.out.on h3)
  clear h3 A1 L2
  by_cases h : Om a b n k
  · rw [decide_eq_true h]
    have h' := h
    rw [K.out] at h'
    obtain ⟨m, q, y, rfl, rfl, rfl, hg, hy⟩ := om_nat h'
    have hy' : y < lv m q := by rwa [L_good hg] at hy
    have HP := hid (atP_ok hg hy')
    have hb := r_bd hg
    have hlo := lv_bd hg
    have hd0 : ¬ m = 0 := by omega
    obtain ⟨s, hs⟩ : ∃ s, s = y / m := ⟨_, rfl⟩
    obtain ⟨t, ht⟩ : ∃ t, t = y % m := ⟨_, rfl⟩
    have hs1 : s ≤ y := by rw [hs]; exact Nat.div_le_self _ _
    have E1 := hid (show (y : Int).tdiv (m : Int) = (s : Int) by rw [hs]; exact (Int.ofNat_tdiv y m).symm)
    have E2 := hid (show (y : Int).tmod (m : Int) = (t : Int) by rw [ht]; exact (Int.ofNat_tmod y m).symm)
    have E3 := hid (show IntKind.i64.wrap (s : Int) = (s : Int) from IntWalk.i64_in _ (by omega))
    rw [← hs, ← ht] at HP
    clear h h' hg hy hy' hs ht hb hlo hs1
    go_wp2_with fail
    refine wp_region_tail (C := At w w.heap.size m q) 9 (by kernel_rfl) (by kernel_rfl) (by kernel_rfl) A3.out.drew ?_
    simp only [List.take_succ_cons, List.take_zero, List.drop_succ_cons, List.drop_zero]
    apply wpK_val
    · rfl
    · intro w' hw'
      go_simp
      first | exact rfl | exact ⟨rfl, hw'⟩
    simp only [Act.put, List.setIfInBounds_toArray, List.set_cons_succ, List.set_cons_zero]
    apply wpK_val
    · rfl
    · intro w' hw'
      go_simp
      first | exact rfl | exact ⟨rfl, hw'⟩
    simp only [Act.put, List.setIfInBounds_toArray, List.set_cons_succ, List.set_cons_zero]
    apply wpK_val
    · rfl
    · intro w' hw'
      have hcell := hw'.c0
      go_simp
      first | exact rfl | exact ⟨rfl, hw'⟩
    simp only [Act.put, List.setIfInBounds_toArray, List.set_cons_succ, List.set_cons_zero]
    apply wpK_val
    · rfl
    · intro w' hw'
      have h1 : _ = _ := E1.out
      have h2 : _ = _ := E3.out
      go_simp
      first | exact rfl | exact ⟨rfl, hw'⟩
    simp only [Act.put, List.setIfInBounds_toArray, List.set_cons_succ, List.set_cons_zero]
    apply wpK_val
    · rfl
    · intro w' hw'
      go_simp
      first | exact rfl | exact ⟨rfl, hw'⟩
    simp only [Act.put, List.setIfInBounds_toArray, List.set_cons_succ, List.set_cons_zero]
    apply wpK_val
    · rfl
    · intro w' hw'
      go_simp
      first | exact rfl | exact ⟨rfl, hw'⟩
    simp only [Act.put, List.setIfInBounds_toArray, List.set_cons_succ, List.set_cons_zero]
    apply wpK_val
    · rfl
    · intro w' hw'
      have hcell := hw'.c0
      go_simp
      first | exact rfl | exact ⟨rfl, hw'⟩
    simp only [Act.put, List.setIfInBounds_toArray, List.set_cons_succ, List.set_cons_zero]
    apply wpK_val
    · rfl
    · intro w' hw'
      have h1 : _ = _ := E2.out
      go_simp
      first | exact rfl | exact ⟨rfl, hw'⟩
    simp only [Act.put, List.setIfInBounds_toArray, List.set_cons_succ, List.set_cons_zero]
    apply wpK_val
    · rfl
    · intro w' hw'
      go_simp
      first | exact rfl | exact ⟨rfl, hw'⟩
    simp only [Act.put, List.setIfInBounds_toArray, List.set_cons_succ, List.set_cons_zero]
    refine wpK_nil fun w5 hw5 => ?_
    have A5 := hid hw5
    clear hw5
    go_wp2_with fail
    go_ret3
    exact ⟨by rw [HP.out]; rfl, A5.out.bel⟩
  · rw [decide_eq_false h]
    rw [K.out] at h
    have H := hid (atP_no h)
    clear h
    go_wp2_with fail
    go_ret3
    exact ⟨by rw [H.out]; rfl, A3.out.bel⟩
end GeM
end Go.Proofs.Ytclmdakgkiponaa
set_option maxRecDepth 100000
namespace Go.Proofs.Ytclmdakgkiponaa
open Go.ChangeShapes Go.WideShapes Go.ChangeAt Go.RowKit
attribute [local go_sem] Gives
namespace GeM
set_option maxHeartbeats 400000 in
theorem given15_any (w : World) : Calls Try.prog 23 #[] w fun e w' => e = .returned (gv 4 3) ∧ Below w.heap.size w w' := by
  go_enter Try.func23, Try.ntmps23
  go_wp2_with fail
  refine ret_row rfl (Blk.new _ _ _) Try.underlying23 rfl (by kernel_rfl) rfl rfl ?_
  exact ⟨rfl, below_al _⟩
set_option maxHeartbeats 400000 in
theorem is_any (n e t : Int) (w : World) : Calls Try.prog 24 #[.int .i64 n, .int .i64 e, .int .i64 t] w fun x w' => x = .returned (.bool (decide (n = t) && decide (e = 0))) ∧ w = w' := by
  by_cases h1 : n = t
  · by_cases h2 : e = 0
    · subst h1 h2
      have hq : (decide (n = n) && decide ((0 : Int) = 0)) = true := by simp
      rw [hq]
      go_enter Try.func24, Try.ntmps24
      go_wp2_with fail
      go_ret
      exact ⟨rfl, rfl⟩
    · have hq : (decide (n = t) && decide (e = 0)) = false := by simp [h2]
      rw [hq]
      subst h1
      have h3 : (e == 0) = false := by simp [h2]
      go_enter Try.func24, Try.ntmps24
      go_wp2_with fail
      go_ret
      exact ⟨rfl, rfl⟩
  · have hq : (decide (n = t) && decide (e = 0)) = false := by simp [h1]
    rw [hq]
    have h3 : (n == t) = false := by simp [h1]
    go_enter Try.func24, Try.ntmps24
    go_wp2_with fail
    go_ret
    exact ⟨rfl, rfl⟩
set_option maxHeartbeats 400000 in
theorem small_any (x y : Nat) (hx : x < 256) (hy : y < 256) (w : World) : Calls Try.prog 26 #[.int .u8 x, .int .u8 y] w fun e w' => e = .returned (gv ((4 + x % 61 : Nat) : Int) ((1 + y % 64 : Nat) : Int)) ∧ Below w.heap.size w w' := by
  obtain ⟨p, hp⟩ : ∃ p, p = x % 61 := ⟨_, rfl⟩
  obtain ⟨q, hq⟩ : ∃ q, q = y % 64 := ⟨_, rfl⟩
  rw [← hp, ← hq]
  have HP := hid hp
  have HQ := hid hq
  clear hp hq
  go_enter Try.func26, Try.ntmps26
  go_wp2_with fail
  refine ret_row rfl (Blk.new _ _ _) Try.underlying23 rfl (by kernel_rfl) rfl rfl ?_
  refine ⟨?_, below_al _⟩
  have h1 : (4 : Int) + (x : Int) % 61 = ((4 + p : Nat) : Int) := by rw [HP.out]; omega
  have h2 : (1 : Int) + (y : Int) % 64 = ((1 + q : Nat) : Int) := by rw [HQ.out]; omega
  rw [h1, h2]
theorem col_12 : colP 4 3 1 2 = (3, 0) := by decide +kernel
theorem mem_10 : memP 4 3 1 0 = (3, 0) := by decide +kernel
theorem lef_21 : lefP 4 3 2 1 = (9, 0) := by decide +kernel
theorem v2_eq (x y : Nat) : v2 (x, y) = .tuple #[.int .i64 x, .int .i64 y] := rfl
theorem v3_eq (x y z : Nat) : v3 (x, y, z) = .tuple #[.int .i64 x, .int .i64 y, .int .i64 z] := rfl
theorem below_of {w w' : World} (h : w = w') : Below w.heap.size w w' := h ▸ Below.refl _ _
set_option maxHeartbeats 400000 in
theorem awake15_any (w : World) : Calls Try.prog 14 #[] w fun e w' => e = .returned (.bool true) ∧ Below w.heap.size w w' := by
  go_enter Try.func14, Try.ntmps14
  go_wp2_with fail
  refine (given15_any _).mono ?_
  rintro e w1 ⟨rfl, h1⟩
  have B1 := hid h1
  clear h1
  unfold gv
  go_wp2_with fail
  refine (column_any 4 3 1 2 _).mono ?_
  rintro e w2 ⟨rfl, h2⟩
  rw [col_12, v2_eq]
  have B2 := hid (B1.out.trans (h2.mono B1.out.size))
  clear h2 B1
  go_wp2_with fail
  refine (given15_any _).mono ?_
  rintro e w3 ⟨rfl, h3⟩
  have B3 := hid (B2.out.trans (h3.mono B2.out.size))
  clear h3 B2
  unfold gv
  go_wp2_with fail
  refine (member_any 4 3 1 0 _).mono ?_
  rintro e w4 ⟨rfl, h4⟩
  rw [mem_10, v2_eq]
  have B4 := hid (B3.out.trans (h4.mono B3.out.size))
  clear h4 B3
  go_wp2_with fail
  refine (given15_any _).mono ?_
  rintro e w5 ⟨rfl, h5⟩
  have B5 := hid (B4.out.trans (h5.mono B4.out.size))
  clear h5 B4
  unfold gv
  go_wp2_with fail
  refine (leaf_any 4 3 2 1 _).mono ?_
  rintro e w6 ⟨rfl, h6⟩
  rw [lef_21, v2_eq]
  have B6 := hid (B5.out.trans (h6.mono B5.out.size))
  clear h6 B5
  go_wp2_with fail
  refine (is_any 3 0 3 _).mono ?_
  rintro e w' ⟨rfl, rfl⟩
  go_wp2_with fail
  refine (is_any 3 0 3 _).mono ?_
  rintro e w' ⟨rfl, rfl⟩
  go_wp2_with fail
  refine (is_any 9 0 9 _).mono ?_
  rintro e w' ⟨rfl, rfl⟩
  go_wp2_with fail
  go_ret
  exact ⟨rfl, B6.out⟩
end GeM
end Go.Proofs.Ytclmdakgkiponaa
set_option maxRecDepth 100000
namespace Go.Proofs.Ytclmdakgkiponaa
open Go.ChangeShapes Go.WideShapes Go.ChangeAt Go.RowKit
attribute [local go_sem] Gives
namespace GeM
set_option maxHeartbeats 400000 in
theorem rmay_any (a b : Int) (w : World) : Calls Try.prog 30 #[gv a b] w fun e w' => e = .returned (.bool (decide (Good a b))) ∧ Below w.heap.size w w' := by
  obtain ⟨c, hc⟩ : ∃ c : Bool, c = decide (Good a b) := ⟨_, rfl⟩
  rw [← hc]
  have HC := hid hc
  clear hc
  have hf : ¬ Good a b → c = false := fun h => by rw [HC.out]; exact decide_eq_false h
  have HF := hid hf
  clear hf
  unfold gv
  by_cases h1 : (4 : Int) ≤ a
  · by_cases h2 : a ≤ (64 : Int)
    · by_cases h3 : (1 : Int) ≤ b
      · by_cases h4 : b ≤ (64 : Int)
        · have hg := hid (show c = true by rw [HC.out]; exact decide_eq_true ⟨h1, h2, h3, h4⟩)
          go_enter Try.func30, Try.ntmps30
          go_wp2_with fail
          go_ret
          exact ⟨by rw [hg.out]; rfl, below_al _⟩
        · go_enter Try.func30, Try.ntmps30
          go_wp2_with fail
          go_ret
          exact ⟨by rw [HF.out fun h => by have := h.2.2.2; omega]; rfl, below_al _⟩
      · go_enter Try.func30, Try.ntmps30
        go_wp2_with fail
        go_ret
        exact ⟨by rw [HF.out fun h => by have := h.2.2.1; omega]; rfl, below_al _⟩
    · go_enter Try.func30, Try.ntmps30
      go_wp2_with fail
      go_ret
      exact ⟨by rw [HF.out fun h => by have := h.2.1; omega]; rfl, below_al _⟩
  · go_enter Try.func30, Try.ntmps30
    go_wp2_with fail
    go_ret
    exact ⟨by rw [HF.out fun h => by have := h.1; omega]; rfl, below_al _⟩
set_option maxHeartbeats 400000 in
theorem rleaf_any (a b r n : Int) (w : World) : Calls Try.prog 18 #[gv a b, .int .i64 r, .int .i64 n] w fun e w' => e = .returned (v2 (lefP a b r n)) ∧ Below w.heap.size w w' := by
  unfold gv
  by_cases h : Ok a b r n
  · obtain ⟨m, q, x, y, rfl, rfl, rfl, rfl, hg, hx, hy⟩ := ok_nat h
    have HG := hid hg
    clear h
    have hb := r_bd hg
    go_enter Try.func18, Try.ntmps18
    go_wp2_with ((with_reducible apply ldR (cs := #[Value.int .i64 m, .int .i64 q]) (tGe _ _)); rfl; exact (At.new w m q).blk.whole)
    refine (rmay_any _ _ _).mono ?_
    rintro e w1 ⟨rfl, h1⟩
    have A1 := hid ((At.new w m q).on h1)
    clear h1
    rw [decide_eq_true hg]
    have q0 := A1.out.c0
    have q1 := A1.out.c1
    have t1 : ¬ (q : Int) ≤ x := by omega
    have t2 : ¬ (m : Int) ≤ y := by omega
    have t3 : ¬ (x : Int) < 0 := by omega
    have t4 : ¬ (y : Int) < 0 := by omega
    have t33 : decide ((x : Int) < 0) = false := decide_eq_false t3
    have t44 : decide ((y : Int) < 0) = false := decide_eq_false t4
    have t11 : decide (q ≤ x) = false := decide_eq_false (by omega)
    have t22 : decide (m ≤ y) = false := decide_eq_false (by omega)
    clear hg
    have HP := hid (lefP_ok HG.out hx hy)
    have hb2 := Nat.mul_le_mul (show x ≤ 64 by omega) (show m ≤ 64 by omega)
    obtain ⟨z, hz⟩ : ∃ z, z = x * m := ⟨_, rfl⟩
    rw [← hz] at hb2
    have Z := hid hz
    have e1 : wrap64 ((x : Int) * (m : Int)) = (z : Int) := by rw [hz, ← Int.natCast_mul, ← hz]; exact IntWalk.wrap64_in _ (by omega)
    have e3 : wrap64 ((z : Int) + (y : Int)) = (z : Int) + y := IntWalk.wrap64_in _ (by omega)
    clear hz
    go_wp2_with fail
    go_ret2
    exact ⟨by rw [HP.out, ← Z.out]; rfl, A1.out.bel⟩
  · have H := hid (lefP_no h)
    have N := hid h
    clear h
    go_enter Try.func18, Try.ntmps18
    go_wp2_with ((with_reducible apply ldR (cs := #[Value.int .i64 a, .int .i64 b]) (tGe _ _)); rfl; exact (At.new w a b).blk.whole)
    refine (rmay_any _ _ _).mono ?_
    rintro e w1 ⟨rfl, h1⟩
    have A1 := hid ((At.new w a b).on h1)
    clear h1
    have q0 := A1.out.c0
    have q1 := A1.out.c1
    by_cases hg : Good a b
    · rw [decide_eq_true hg]
      have G := hid hg
      clear hg
      by_cases h1 : r < 0
      · go_wp2_with fail
        go_ret2
        exact ⟨by rw [H.out]; rfl, A1.out.bel⟩
      by_cases h2 : b ≤ r
      · go_wp2_with fail
        go_ret2
        exact ⟨by rw [H.out]; rfl, A1.out.bel⟩
      by_cases h3 : n < 0
      · go_wp2_with fail
        go_ret2
        exact ⟨by rw [H.out]; rfl, A1.out.bel⟩
      by_cases h4 : a ≤ n
      · go_wp2_with fail
        go_ret2
        exact ⟨by rw [H.out]; rfl, A1.out.bel⟩
      exact absurd ⟨G.out, by omega, by omega, by omega, by omega⟩ N.out
    · rw [decide_eq_false hg]
      clear hg
      go_wp2_with fail
      go_ret2
      exact ⟨by rw [H.out]; rfl, A1.out.bel⟩
set_option maxHeartbeats 400000 in
theorem rcolumn_any (a b r n : Int) (w : World) : Calls Try.prog 11 #[gv a b, .int .i64 r, .int .i64 n] w fun e w' => e = .returned (v2 (colP a b r n)) ∧ Below w.heap.size w w' := by
  unfold gv
  by_cases h : Ok a b r n
  · obtain ⟨m, q, x, y, rfl, rfl, rfl, rfl, hg, hx, hy⟩ := ok_nat h
    have HG := hid hg
    clear h
    have hb := r_bd hg
    go_enter Try.func11, Try.ntmps11
    go_wp2_with ((with_reducible apply ldR (cs := #[Value.int .i64 m, .int .i64 q]) (tGe _ _)); rfl; exact (At.new w m q).blk.whole)
    refine (rmay_any _ _ _).mono ?_
    rintro e w1 ⟨rfl, h1⟩
    have A1 := hid ((At.new w m q).on h1)
    clear h1
    rw [decide_eq_true hg]
    have q0 := A1.out.c0
    have q1 := A1.out.c1
    have t1 : ¬ (q : Int) ≤ x := by omega
    have t2 : ¬ (m : Int) ≤ y := by omega
    have t3 : ¬ (x : Int) < 0 := by omega
    have t4 : ¬ (y : Int) < 0 := by omega
    have t33 : decide ((x : Int) < 0) = false := decide_eq_false t3
    have t44 : decide ((y : Int) < 0) = false := decide_eq_false t4
    have t11 : decide (q ≤ x) = false := decide_eq_false (by omega)
    have t22 : decide (m ≤ y) = false := decide_eq_false (by omega)
    clear hg
    have HP := hid (colP_ok HG.out hx hy)
    go_wp2_with fail
    go_loop [8, 9] (fun u8 u9 => ∃ i c : Nat, u8 = .int .i64 c ∧ u9 = .int .i64 i ∧ i ≤ x ∧ c < m ∧ Hid (c = col m i y)) (fun _ u9 => x - (intOf u9).toNat)
    case atStart => exact ⟨0, y, rfl, rfl, by omega, hy, hid (by unfold col; rw [Nat.add_zero, Nat.mod_eq_of_lt hy])⟩
    case round =>
      obtain ⟨i, c, rfl, rfl, hi, hc, HC⟩ := hrel
      by_cases hgo : i < x
      · have t5 : (i : Int) < x := by omega
        have hs := hid (show col m (i + 1) y = if c + 1 = m then 0 else c + 1 by
          have hc' := HC.out
          unfold col at hc' ⊢
          rw [show y + (i + 1) = (y + i) + 1 by omega, Nat.add_mod, ← hc', Nat.mod_eq_of_lt (show 1 < m by omega)]
          by_cases e : c + 1 = m
          · rw [if_pos e, e, Nat.mod_self]
          · rw [if_neg e, Nat.mod_eq_of_lt (by omega)])
        by_cases e : c + 1 = m
        · have t6 : (c : Int) + 1 = m := by omega
          have E := hid e
          clear e
          go_wp2_with fail
          go_round
          case rel => exact ⟨i + 1, 0, rfl, by go_num, by omega, by omega, hid (by rw [hs.out, if_pos E.out])⟩
          case measure => simp [intOf] <;> omega
        · have t6 : ¬ (c : Int) + 1 = m := by omega
          have E := hid e
          clear e
          go_wp2_with fail
          go_round
          case rel => exact ⟨i + 1, c + 1, by go_num, by go_num, by omega, by have := E.out; omega, hid (by rw [hs.out, if_neg E.out])⟩
          case measure => simp [intOf] <;> omega
      · have t5 : ¬ (i : Int) < x := by omega
        have hix := hid (show x = i by omega)
        go_wp2_with fail
        go_ret2
        exact ⟨by rw [HP.out, hix.out, ← HC.out]; rfl, A1.out.bel⟩
  · have H := hid (colP_no h)
    have N := hid h
    clear h
    go_enter Try.func11, Try.ntmps11
    go_wp2_with ((with_reducible apply ldR (cs := #[Value.int .i64 a, .int .i64 b]) (tGe _ _)); rfl; exact (At.new w a b).blk.whole)
    refine (rmay_any _ _ _).mono ?_
    rintro e w1 ⟨rfl, h1⟩
    have A1 := hid ((At.new w a b).on h1)
    clear h1
    have q0 := A1.out.c0
    have q1 := A1.out.c1
    by_cases hg : Good a b
    · rw [decide_eq_true hg]
      have G := hid hg
      clear hg
      by_cases h1 : r < 0
      · go_wp2_with fail
        go_ret2
        exact ⟨by rw [H.out]; rfl, A1.out.bel⟩
      by_cases h2 : b ≤ r
      · go_wp2_with fail
        go_ret2
        exact ⟨by rw [H.out]; rfl, A1.out.bel⟩
      by_cases h3 : n < 0
      · go_wp2_with fail
        go_ret2
        exact ⟨by rw [H.out]; rfl, A1.out.bel⟩
      by_cases h4 : a ≤ n
      · go_wp2_with fail
        go_ret2
        exact ⟨by rw [H.out]; rfl, A1.out.bel⟩
      exact absurd ⟨G.out, by omega, by omega, by omega, by omega⟩ N.out
    · rw [decide_eq_false hg]
      clear hg
      go_wp2_with fail
      go_ret2
      exact ⟨by rw [H.out]; rfl, A1.out.bel⟩
set_option maxHeartbeats 400000 in
theorem rmember_any (a b r n : Int) (w : World) : Calls Try.prog 13 #[gv a b, .int .i64 r, .int .i64 n] w fun e w' => e = .returned (v2 (memP a b r n)) ∧ Below w.heap.size w w' := by
  unfold gv
  by_cases h : Ok a b r n
  · obtain ⟨m, q, x, y, rfl, rfl, rfl, rfl, hg, hx, hy⟩ := ok_nat h
    have HG := hid hg
    clear h
    have hb := r_bd hg
    go_enter Try.func13, Try.ntmps13
    go_wp2_with ((with_reducible apply ldR (cs := #[Value.int .i64 m, .int .i64 q]) (tGe _ _)); rfl; exact (At.new w m q).blk.whole)
    refine (rmay_any _ _ _).mono ?_
    rintro e w1 ⟨rfl, h1⟩
    have A1 := hid ((At.new w m q).on h1)
    clear h1
    rw [decide_eq_true hg]
    have q0 := A1.out.c0
    have q1 := A1.out.c1
    have t1 : ¬ (q : Int) ≤ x := by omega
    have t2 : ¬ (m : Int) ≤ y := by omega
    have t3 : ¬ (x : Int) < 0 := by omega
    have t4 : ¬ (y : Int) < 0 := by omega
    have t33 : decide ((x : Int) < 0) = false := decide_eq_false t3
    have t44 : decide ((y : Int) < 0) = false := decide_eq_false t4
    have t11 : decide (q ≤ x) = false := decide_eq_false (by omega)
    have t22 : decide (m ≤ y) = false := decide_eq_false (by omega)
    clear hg
    have HP := hid (memP_ok HG.out hx hy)
    obtain ⟨z, hz⟩ : ∃ z, z = mem m x y := ⟨_, rfl⟩
    have Z := hid hz
    have hzm : z < m := by rw [hz]; exact mem_lt (by omega)
    have HC := hid (show ∀ k, k < m → colP m q x k = (col m x k, 0) from fun k hk => colP_ok HG.out hx hk)
    have HI := hid (show ∀ k, k < m → (col m x k = y ↔ k = z) from fun k hk => ⟨fun e => by rw [hz, ← e, mem_col hk], fun e => by rw [e, hz, col_mem hy]⟩)
    rw [← hz] at HP
    clear hz
    go_wp2_with fail
    clear q0 q1
    go_loopw [8, 9, 10] (fun u8 u9 u10 wr => ∃ k : Nat, u8 = .int .i64 k ∧ k ≤ z ∧ Hid (At w w.heap.size m q wr)) (fun u8 _ _ _ => z - (intOf u8).toNat)
    case atStart => exact ⟨0, rfl, by omega, A1⟩
    case round =>
      obtain ⟨k, rfl, hk, HA⟩ := hrel
      have q0 := HA.out.c0
      have t5 : (k : Int) < m := by omega
      go_wp2_with ((with_reducible apply ldR (cs := #[Value.int .i64 m, .int .i64 q]) (tGe _ _)); rfl; exact HA.out.blk.whole)
      refine (rcolumn_any _ _ _ _ _).mono ?_
      rintro e w2 ⟨rfl, h2⟩
      rw [HC.out k (by omega)]
      unfold v2
      have A2 := hid (HA.out.on h2)
      clear h2 HA q0
      obtain ⟨c, hc⟩ : ∃ c, c = col m x k := ⟨_, rfl⟩
      have hck := HI.out k (by omega)
      rw [← hc] at hck ⊢
      have CK := hid hck
      clear hc hck
      by_cases e : k = z
      · have hcy : c = y := CK.out.2 e
        have K := hid e
        have t6 : (c : Int) = y := by omega
        clear e hcy CK
        go_wp2_with fail
        go_ret2
        exact ⟨by rw [HP.out, ← K.out]; rfl, A2.out.bel⟩
      · have hcy : ¬ c = y := fun h => e (CK.out.1 h)
        have t6 : ¬ (c : Int) = y := by omega
        have K := hid e
        clear e hcy CK
        go_wp2_with fail
        go_roundw
        case rel => exact ⟨k + 1, by go_num, by have := K.out; omega, A2⟩
        case measure => have := K.out; simp [intOf]; omega
  · have H := hid (memP_no h)
    have N := hid h
    clear h
    go_enter Try.func13, Try.ntmps13
    go_wp2_with ((with_reducible apply ldR (cs := #[Value.int .i64 a, .int .i64 b]) (tGe _ _)); rfl; exact (At.new w a b).blk.whole)
    refine (rmay_any _ _ _).mono ?_
    rintro e w1 ⟨rfl, h1⟩
    have A1 := hid ((At.new w a b).on h1)
    clear h1
    have q0 := A1.out.c0
    have q1 := A1.out.c1
    by_cases hg : Good a b
    · rw [decide_eq_true hg]
      have G := hid hg
      clear hg
      by_cases h1 : r < 0
      · go_wp2_with fail
        go_ret2
        exact ⟨by rw [H.out]; rfl, A1.out.bel⟩
      by_cases h2 : b ≤ r
      · go_wp2_with fail
        go_ret2
        exact ⟨by rw [H.out]; rfl, A1.out.bel⟩
      by_cases h3 : n < 0
      · go_wp2_with fail
        go_ret2
        exact ⟨by rw [H.out]; rfl, A1.out.bel⟩
      by_cases h4 : a ≤ n
      · go_wp2_with fail
        go_ret2
        exact ⟨by rw [H.out]; rfl, A1.out.bel⟩
      exact absurd ⟨G.out, by omega, by omega, by omega, by omega⟩ N.out
    · rw [decide_eq_false hg]
      clear hg
      go_wp2_with fail
      go_ret2
      exact ⟨by rw [H.out]; rfl, A1.out.bel⟩
set_option maxHeartbeats 400000 in
theorem rnumber_any (a b r n : Int) (w : World) : Calls Try.prog 16 #[gv a b, .int .i64 r, .int .i64 n] w fun e w' => e = .returned (v2 (numP a b r n)) ∧ Below w.heap.size w w' := by
  unfold gv
  by_cases h : Ok a b r n
  · obtain ⟨m, q, x, y, rfl, rfl, rfl, rfl, hg, hx, hy⟩ := ok_nat h
    have HG := hid hg
    clear h
    have hb := r_bd hg
    go_enter Try.func16, Try.ntmps16
    go_wp2_with ((with_reducible apply ldR (cs := #[Value.int .i64 m, .int .i64 q]) (tGe _ _)); rfl; exact (At.new w m q).blk.whole)
    refine (rmay_any _ _ _).mono ?_
    rintro e w1 ⟨rfl, h1⟩
    have A1 := hid ((At.new w m q).on h1)
    clear h1
    rw [decide_eq_true hg]
    have q0 := A1.out.c0
    have q1 := A1.out.c1
    have t1 : ¬ (q : Int) ≤ x := by omega
    have t2 : ¬ (m : Int) ≤ y := by omega
    have t3 : ¬ (x : Int) < 0 := by omega
    have t4 : ¬ (y : Int) < 0 := by omega
    have t33 : decide ((x : Int) < 0) = false := decide_eq_false t3
    have t44 : decide ((y : Int) < 0) = false := decide_eq_false t4
    have t11 : decide (q ≤ x) = false := decide_eq_false (by omega)
    have t22 : decide (m ≤ y) = false := decide_eq_false (by omega)
    clear hg
    have e0 : wrap64 ((y : Int) + 2) = (y : Int) + 2 := IntWalk.wrap64_in _ (by omega)
    by_cases h2 : y + 2 < m
    · have HP := hid (numP_ok HG.out hx hy h2)
      have t5 : ¬ (m : Int) ≤ (y : Int) + 2 := by omega
      obtain ⟨d, hd⟩ : ∃ d, d = m - 2 := ⟨_, rfl⟩
      rw [← hd] at HP
      have hb2 : ∀ i, i ≤ x → i * d ≤ 4096 := fun i hi => by
        have := Nat.mul_le_mul (show i ≤ 64 by omega) (show d ≤ 64 by omega)
        omega
      have HB := hid hb2
      have HD := hid hd
      clear hb2 hd h2
      go_wp2_with fail
      go_loop [8, 9] (fun u8 u9 => ∃ i n : Nat, u8 = .int .i64 n ∧ u9 = .int .i64 i ∧ i ≤ x ∧ Hid (n = i * d)) (fun _ u9 => x - (intOf u9).toNat)
      case atStart => exact ⟨0, 0, rfl, rfl, by omega, hid (by omega)⟩
      case round =>
        obtain ⟨i, n, rfl, rfl, hi, HN⟩ := hrel
        have hn : n ≤ 4096 := by rw [HN.out]; exact HB.out i hi
        by_cases hgo : i < x
        · have t6 : (i : Int) < x := by omega
          have e1 : wrap64 ((n : Int) + (m : Int)) = (n : Int) + m := IntWalk.wrap64_in _ (by omega)
          have e2 : wrap64 ((n : Int) + (m : Int) - 2) = ((n + d : Nat) : Int) := by rw [IntWalk.wrap64_in _ (by omega)]; have := HD.out; omega
          obtain ⟨n', hn'⟩ : ∃ n', n' = n + d := ⟨_, rfl⟩
          rw [← hn'] at e2
          have N := hid hn'
          clear hn'
          go_wp2_with fail
          go_round
          case rel => exact ⟨i + 1, n', congrArg (Value.int .i64) (by have := N.out; have := HD.out; omega), by go_num, by omega, hid (by rw [N.out, HN.out, Nat.add_mul, Nat.one_mul])⟩
          case measure => simp [intOf] <;> omega
        · have t6 : ¬ (i : Int) < x := by omega
          have hix := hid (show x = i by omega)
          have e3 : wrap64 ((n : Int) + (y : Int)) = (n : Int) + y := IntWalk.wrap64_in _ (by omega)
          go_wp2_with fail
          go_ret2
          exact ⟨by rw [HP.out, hix.out, ← HN.out]; rfl, A1.out.bel⟩
    · have HP := hid (numP_pq HG.out hx hy h2)
      have t5 : (m : Int) ≤ (y : Int) + 2 := by omega
      go_wp2_with fail
      go_ret2
      exact ⟨by rw [HP.out]; rfl, A1.out.bel⟩
  · have H := hid (numP_no h)
    have N := hid h
    clear h
    go_enter Try.func16, Try.ntmps16
    go_wp2_with ((with_reducible apply ldR (cs := #[Value.int .i64 a, .int .i64 b]) (tGe _ _)); rfl; exact (At.new w a b).blk.whole)
    refine (rmay_any _ _ _).mono ?_
    rintro e w1 ⟨rfl, h1⟩
    have A1 := hid ((At.new w a b).on h1)
    clear h1
    have q0 := A1.out.c0
    have q1 := A1.out.c1
    by_cases hg : Good a b
    · rw [decide_eq_true hg]
      have G := hid hg
      clear hg
      by_cases h1 : r < 0
      · go_wp2_with fail
        go_ret2
        exact ⟨by rw [H.out]; rfl, A1.out.bel⟩
      by_cases h2 : b ≤ r
      · go_wp2_with fail
        go_ret2
        exact ⟨by rw [H.out]; rfl, A1.out.bel⟩
      by_cases h3 : n < 0
      · go_wp2_with fail
        go_ret2
        exact ⟨by rw [H.out]; rfl, A1.out.bel⟩
      by_cases h4 : a ≤ n
      · go_wp2_with fail
        go_ret2
        exact ⟨by rw [H.out]; rfl, A1.out.bel⟩
      exact absurd ⟨G.out, by omega, by omega, by omega, by omega⟩ N.out
    · rw [decide_eq_false hg]
      clear hg
      go_wp2_with fail
      go_ret2
      exact ⟨by rw [H.out]; rfl, A1.out.bel⟩
set_option maxHeartbeats 400000 in
theorem rof_any (a b n : Int) (w : World) : Calls Try.prog 20 #[gv a b, .int .i64 n] w fun e w' => e = .returned (v3 (ofP a b n)) ∧ Below w.heap.size w w' := by
  unfold gv
  go_enter Try.func20, Try.ntmps20
  go_wp2_with ((with_reducible apply ldR (cs := #[Value.int .i64 a, .int .i64 b]) (tGe _ _)); rfl; exact (At.new w a b).blk.whole)
  refine (rmay_any _ _ _).mono ?_
  rintro e w1 ⟨rfl, h1⟩
  have A1 := hid ((At.new w a b).on h1)
  clear h1
  have q0 := A1.out.c0
  have q1 := A1.out.c1
  by_cases hg : Good a b
  · rw [decide_eq_true hg]
    obtain ⟨m, q, rfl, rfl, k1, k2, k3, k4⟩ := good_nat hg
    by_cases hn : n < 0
    · have H := hid (ofP_no (a := m) (b := q) (n := n) fun h => by have := h.2.1; omega)
      go_wp2_with fail
      go_ret3
      exact ⟨by rw [H.out]; rfl, A1.out.bel⟩
    · obtain ⟨y, rfl⟩ : ∃ y : Nat, n = y := ⟨n.toNat, by omega⟩
      obtain ⟨d, hd⟩ : ∃ d, d = m - 2 := ⟨_, rfl⟩
      have D := hid hd
      have HY := hid (show y < q * d → ofP m q y = (y / d, y % d, 0) from fun h => by rw [hd]; exact ofP_ok hg (by unfold lo; rwa [hd] at h))
      have HN := hid (show ¬ y < q * d → ofP m q y = (0, 0, 2) from fun h => ofP_no fun e => h (by have := e.2.2; rw [L_good hg] at this; unfold lo at this; rw [hd]; omega))
      have HQ := hid (show ∀ i, i ≤ q → i * d ≤ 4096 from fun i hi => by
        have := Nat.mul_le_mul (show i ≤ 64 by omega) (show d ≤ 64 by omega)
        omega)
      have t1 : decide ((y : Int) < 0) = false := decide_eq_false (by omega)
      have hdp : 0 < d := by omega
      clear hg hd
      go_wp2_with fail
      go_loop [7, 8, 9] (fun u7 u8 u9 => ∃ i x : Nat, u7 = .int .i64 x ∧ u8 = .int .i64 i ∧ i ≤ q ∧ Hid (x = i * d) ∧ Hid (x ≤ y)) (fun _ u8 _ => q - (intOf u8).toNat)
      case atStart => exact ⟨0, 0, rfl, rfl, by omega, hid (by omega), hid (by omega)⟩
      case round =>
        obtain ⟨i, x, rfl, rfl, hi, HX, HL⟩ := hrel
        have hx : x ≤ 4096 := by rw [HX.out]; exact HQ.out i hi
        by_cases hgo : i < q
        · have t2 : (i : Int) < q := by omega
          have hx1 : x + d ≤ 4096 := by have := HQ.out (i + 1) (by omega); rw [Nat.add_mul, Nat.one_mul, ← HX.out] at this; exact this
          go_wp2_with fail
          go_loop [7, 9] (fun u7 u9 => ∃ c z : Nat, u7 = .int .i64 z ∧ u9 = .int .i64 c ∧ c ≤ d ∧ Hid (z = x + c) ∧ Hid (z ≤ y)) (fun _ u9 => d - (intOf u9).toNat)
          case atStart => exact ⟨0, x, rfl, rfl, by omega, hid (by omega), HL⟩
          case round =>
            obtain ⟨c, z, rfl, rfl, hc, HZ, HZL⟩ := hrel
            have hz : z ≤ 4096 := by have := HZ.out; omega
            by_cases hgc : c < d
            · have t3 : (c : Int) + 2 < m := by have := D.out; omega
              by_cases hzy : z = y
              · have t4 : (z : Int) = y := by omega
                have HF := hid (show ofP m q y = (i, c, 0) by
                  have e1 := HX.out
                  have e2 := HZ.out
                  have e3 : y = c + d * i := by rw [Nat.mul_comm]; omega
                  have e4 : y < q * d := by
                    have := Nat.mul_le_mul_right d (show i + 1 ≤ q by omega)
                    rw [Nat.add_mul] at this
                    omega
                  rw [HY.out e4, e3, Nat.add_mul_div_left _ _ hdp, Nat.div_eq_of_lt hgc, Nat.add_mul_mod_self_left, Nat.mod_eq_of_lt hgc, Nat.zero_add])
                clear hzy
                go_wp2_with fail
                go_ret3
                exact ⟨by rw [HF.out]; rfl, A1.out.bel⟩
              · have t4 : ¬ (z : Int) = y := by omega
                have hzl := hid (show z + 1 ≤ y by have := HZL.out; omega)
                clear hzy
                go_wp2_with fail
                go_round
                case rel => exact ⟨c + 1, z + 1, by go_num, by go_num, by omega, hid (by have := HZ.out; omega), hzl⟩
                case measure => simp [intOf] <;> omega
            · have t3 : ¬ (c : Int) + 2 < m := by have := D.out; omega
              have hcd := hid (show c = d by omega)
              go_wp2_with fail
              go_round
              case rel => exact ⟨i + 1, z, by go_num, by go_num, by omega, hid (by rw [HZ.out, HX.out, hcd.out, Nat.add_mul, Nat.one_mul]), HZL⟩
              case measure => simp [intOf] <;> omega
        · have t2 : ¬ (i : Int) < q := by omega
          have HF := hid (show ofP m q y = (0, 0, 2) from HN.out fun h => by
            have e1 := HX.out
            have e2 := HL.out
            rw [show i = q by omega] at e1
            omega)
          go_wp2_with fail
          go_ret3
          exact ⟨by rw [HF.out]; rfl, A1.out.bel⟩
  · rw [decide_eq_false hg]
    have H := hid (ofP_no (a := a) (b := b) (n := n) fun h => hg h.1)
    clear hg
    go_wp2_with fail
    go_ret3
    exact ⟨by rw [H.out]; rfl, A1.out.bel⟩
set_option maxHeartbeats 400000 in
theorem rat_any (a b n : Int) (hn9 : n ≤ 9223372036854775807) (w : World) : Calls Try.prog 22 #[gv a b, .int .i64 n] w fun e w' => e = .returned (v3 (atP a b n)) ∧ Below w.heap.size w w' := by
  unfold gv
  go_enter Try.func22, Try.ntmps22
  go_wp2_with ((with_reducible apply ldR (cs := #[Value.int .i64 a, .int .i64 b]) (tGe _ _)); rfl; exact (At.new w a b).blk.whole)
  refine (rmay_any _ _ _).mono ?_
  rintro e w1 ⟨rfl, h1⟩
  have A1 := hid ((At.new w a b).on h1)
  clear h1
  have q0 := A1.out.c0
  have q1 := A1.out.c1
  by_cases hg : Good a b
  · rw [decide_eq_true hg]
    obtain ⟨m, q, rfl, rfl, k1, k2, k3, k4⟩ := good_nat hg
    by_cases hn : n < 0
    · have H := hid (atP_no (a := m) (b := q) (n := n) fun h => by have := h.2.1; omega)
      go_wp2_with fail
      go_ret3
      exact ⟨by rw [H.out]; rfl, A1.out.bel⟩
    · obtain ⟨y, rfl⟩ : ∃ y : Nat, n = y := ⟨n.toNat, by omega⟩
      have HY := hid (show y < m * q → atP m q y = (y / m, y % m, 0) from fun h => atP_ok hg h)
      have HN := hid (show ¬ y < m * q → atP m q y = (0, 0, 2) from fun h => atP_no fun e => h (by have := e.2.2; rw [L_good hg] at this; unfold lv at this; omega))
      have t1 : decide ((y : Int) < 0) = false := decide_eq_false (by omega)
      obtain ⟨Y, hY⟩ : ∃ Y : Nat, Y = y := ⟨_, rfl⟩
      have HYY := hid hY
      rw [← hY] at HY HN
      clear hg hY
      go_wp2_with fail
      go_loop [1, 7] (fun u1 u7 => ∃ i l : Nat, u1 = .int .i64 l ∧ u7 = .int .i64 i ∧ i ≤ q ∧ Hid (Y = i * m + l)) (fun _ u7 => q - (intOf u7).toNat)
      case atStart => exact ⟨0, y, rfl, rfl, by omega, hid (by have := HYY.out; omega)⟩
      case round =>
        obtain ⟨i, l, rfl, rfl, hi, HL⟩ := hrel
        by_cases hgo : i < q
        · have t2 : (i : Int) < q := by omega
          by_cases hl : l < m
          · have t3 : (l : Int) < m := by omega
            have HF := hid (show atP m q Y = (i, l, 0) by
              have e1 := HL.out
              have e3 : Y = l + m * i := by rw [Nat.mul_comm]; omega
              have e4 : Y < m * q := by
                have := Nat.mul_le_mul_left m (show i + 1 ≤ q by omega)
                rw [Nat.mul_add] at this
                omega
              rw [HY.out e4, e3, Nat.add_mul_div_left _ _ (by omega), Nat.div_eq_of_lt hl, Nat.add_mul_mod_self_left, Nat.mod_eq_of_lt hl, Nat.zero_add])
            go_wp2_with fail
            go_ret3
            exact ⟨by rw [← HYY.out, HF.out]; rfl, A1.out.bel⟩
          · have t3 : ¬ (l : Int) < m := by omega
            obtain ⟨z, hz⟩ : ∃ z, z = l - m := ⟨_, rfl⟩
            have hl9 : l ≤ 9223372036854775807 := by have := HL.out; have := HYY.out; omega
            have e1 : wrap64 ((l : Int) - (m : Int)) = (z : Int) := by rw [IntWalk.wrap64_in _ (by omega)]; omega
            have HZ := hid (show Y = (i + 1) * m + z by have := HL.out; rw [Nat.add_mul]; omega)
            have Z := hid hz
            clear hz
            go_wp2_with fail
            go_round
            case rel => exact ⟨i + 1, z, congrArg (Value.int .i64) (by have := Z.out; omega), by go_num, by omega, HZ⟩
            case measure => simp [intOf] <;> omega
        · have t2 : ¬ (i : Int) < q := by omega
          have HF := hid (show atP m q Y = (0, 0, 2) from HN.out fun h => by
            have e1 := HL.out
            rw [show i = q by omega, Nat.mul_comm] at e1
            omega)
          go_wp2_with fail
          go_ret3
          exact ⟨by rw [← HYY.out, HF.out]; rfl, A1.out.bel⟩
  · rw [decide_eq_false hg]
    have H := hid (atP_no (a := a) (b := b) (n := n) fun h => hg h.1)
    clear hg
    go_wp2_with fail
    go_ret3
    exact ⟨by rw [H.out]; rfl, A1.out.bel⟩
end GeM
end Go.Proofs.Ytclmdakgkiponaa
