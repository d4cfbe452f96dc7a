/-
  Two slices of the call's own beside each other: where the result of an append lies.
  An append leaves the slice that it was given as it was; the append in a region that draws its order.
  As XRegRel; what the world holds of a value is kept by those operations alone that it does not wait for.
  A region that draws its order, in which several operations write: the class of worlds hangs on which of them have come up (D), and on nothing else.
  A region that draws its order, whose values may hang on the order and on what a call makes of the world: of each operation's value one states what it is like (S), what the world then holds of it (D, kept by what the others do: K), and which operations have come up (C).
  Rows of bytes of any type compared; loaded, in regions whose values hang on their order.
  Regions whose values hang on their order: known values, and operations whose value is only known to be of a kind, with what the world holds of it.
  Lists of elements: a literal of one element; a struct's literal; one element that stands in a new block.
  The document's member: Read, Look, Write, Flush.
  The document's member: one field turned; Write.
  The document's member: Flush, Fail, Back.
  A region that draws its order and makes one new variable ('x := f(y)', the call no lone one): its address hangs on the order; all else does not.
  Rows of n bytes loaded in a drawn region that makes a variable.
  Structs and arrays of any cells, loaded and stored whole.
  The document's member: made, copied.
  Texts of bytes.
  The document's member: Crash.
  The document's member: Set.
  Lists of elements: an append to a slice that is full: a row of its own.
-/
import Derived.Test.YteglhalninlapaaMrg1
import Derived.Deep.DeepAppendRoom
import Derived.Laws.IdiomStrings
set_option linter.unusedVariables false
set_option linter.unusedSimpArgs false
set_option maxRecDepth 100000
namespace Go.Proofs.Yteglhalninlapaa
open Go.ChangeShapes Go.WideShapes Go.ChangeAt Go.RowKit
section
variable {ops : Array Oper} {Q : Exit → Act → World → Prop} {a : Act} {w : World} {rest : List Oper} {dst : Option Tmp} {ty : TypeId} {pos : String} {after : Array Edge} {s x : Operand} {m c B B' : Nat} {v : Value} {l kk : List Nat} {S e : TypeId} {k : IntKind} {ad : Addr}
theorem nums_reads (hrd : Nums k w B' (some ad) kk) (_hk : kk.length = m) : ∀ j u, (nums k kk)[j]? = some u → w.cell? (ad.add j) = some u := fun j u hj => by
  have hjm : j < kk.length := by
    have := (List.getElem?_eq_some_iff.1 hj).1
    rwa [nums_length] at this
  obtain ⟨b, o, e', _, hr⟩ := hrd (by omega)
  obtain rfl : ad = ⟨b, o, none⟩ := Option.some.inj e'
  rw [nums_get k hjm] at hj
  rw [Addr.add_mid, hr j hjm]
  exact hj
theorem nums_oneCell (kk : List Nat) : ∀ u ∈ nums k kk, u.oneCell' = true := fun u hu => by
  obtain ⟨y, _, rfl⟩ := List.mem_map.1 hu
  rfl
/-- It lies where the slice lay, or anew. -/
theorem run_appN_where (E : Elt S e k) (hown : Own e k w B v l) (hrd : Nums k w B' (some ad) kk) (hk : kk.length = m) (hsz : l.length + m ≤ 1000000) {v' : Value} {w' : World}
    (hr : (Builtin.append_ #[S, S] ty #[v, .slice (some ad) m c]).run Try.prog w = .ok v' w') : v'.ownBlock = v.ownBlock ∨ v'.ownBlock = some w.heap.size := by
  obtain ⟨i, hi, hz, h1, h2⟩ := E.inf
  have hbytes : (l.length + m) * i.bytes ≤ 140737488355328 := Nat.le_trans (Nat.mul_le_mul hsz h2) (by omega)
  have hl1 : (nums k kk).length = m * i.size := by rw [nums_length, h1, Nat.mul_one, hk]
  rcases hown.2 with ⟨rfl, h0⟩ | ⟨g, cap, cur, rfl, hB, hg, hnc, hcm, hcs, ht⟩
  · by_cases hm : m = 0
    · subst hm
      have hn : kk = [] := List.eq_nil_of_length_eq_zero hk
      subst hn
      left
      have hrun : (Builtin.append_ #[S, S] ty #[.slice none 0 0, .slice (some ad) 0 c]).run Try.prog w = .ok (.slice none 0 0) w := by
        simp [Builtin.append_, run_underlying E.und, sizeOf, typeInfo, hi, Builtin.lenOf, Builtin.firstCells, loadCells, loadCellsFrom]
      rw [hrun] at hr
      cases hr
      rfl
    · right
      rw [h0] at hbytes hsz
      rw [Nat.zero_add] at hbytes
      have hrun := run_append_nil (P := Try.prog) w S ty e i (.int k 0) E.und hi hz ad m c (nums k kk) hl1 (nums_reads hrd hk) (by omega) (by omega) (by omega)
      rw [hrun] at hr
      cases hr
      rfl
  · rw [Nat.mul_one] at hcs ht
    by_cases hroom : l.length + m ≤ cap
    · left
      have hrun := run_append_room (P := Try.prog) w S ty e i E.und hi g l.length cap cur hg ad m c (nums k kk) hl1 (nums_reads hrd hk) (nums_oneCell kk) hroom (by rw [h1, Nat.mul_one, nums_length, hcs]; omega)
      rw [hrun] at hr
      cases hr
      rfl
    · right
      have hown' : w.ownsRow B e i.size (.slice (some ⟨g, 0, none⟩) l.length cap) l.length (nums k l) := by rw [h1]; exact hown
      have holds : ∀ j u, (nums k l)[j]? = some u → w.cell? ((⟨g, 0, none⟩ : Addr).add j) = some u := hown.cells (g := g) rfl
      have hrun := run_append_grow (P := Try.prog) w S ty e i (.int k 0) E.und hi hz ⟨g, 0, none⟩ l.length cap (nums k l) (by rw [nums_length, h1, Nat.mul_one]) holds ad m c (nums k kk) hl1 (nums_reads hrd hk) (by omega) (by omega) (growslice_fits (by omega) hbytes)
      rw [hrun] at hr
      cases hr
      rfl
theorem wappW {A : Option Addr} (E : Elt S e k) (hs : a.eval s = v) (hx : a.eval x = .slice A m c) (h0 : A = none → m = 0 ∧ c = 0) (hown : Own e k w B v l) (hrd : Nums k w B' A kk) (hk : kk.length = m) (hsz : l.length + m ≤ 1000000) (hB : B ≤ w.heap.size)
    (h : ∀ v' w', Own e k w' B v' (l ++ kk) → w.grownBy w' v.ownBlock → (v'.ownBlock = v.ownBlock ∨ v'.ownBlock = some w.heap.size) → wpList Try.prog ops Q rest (a.put dst v') w') :
    wpList Try.prog ops Q (⟨dst, .call { callee := .builtin .append, args := #[s, x], argTypes := #[S, S] }, ty, pos, after, none⟩ :: rest) a w := by
  cases A with
  | some ad =>
    obtain ⟨v', w', hr, h1, h2⟩ := run_appN (ty := ty) (c := c) E hown hrd hk hsz hB
    have h3 := run_appN_where E hown hrd hk hsz hr
    refine wpList_plain rfl fun K hK => ?_
    unfold Oper.wp execOp
    simp only [resolve, invoke, builtin, Sem.run_bind, Sem.run_pure, Result.andThen_ok, List.map_toArray, List.map_cons, List.map_nil, hs, hx, hr]
    exact hK _ _ (h v' w' h1 h2 h3)
  | none =>
    obtain ⟨rfl, rfl⟩ := h0 rfl
    obtain rfl := List.eq_nil_of_length_eq_zero hk
    rw [List.append_nil] at h
    exact wappN_none E hs hx hown (h v w hown ⟨rfl, rfl, rfl, Nat.le_refl _, fun _ _ _ => rfl⟩ (.inl rfl))
end
theorem Own.lower {e : TypeId} {k : IntKind} {w : World} {B B' : Nat} {v : Value} {l : List Nat} (h : Own e k w B v l) (hB : B' ≤ B) : Own e k w B' v l := by
  refine ⟨h.1, ?_⟩
  rcases h.2 with h' | ⟨g, cap, cur, hv, hb, hr⟩
  · exact .inl h'
  · exact .inr ⟨g, cap, cur, hv, Nat.le_trans hB hb, hr⟩
/-- They lie in rows of their own. -/
def Apart (v u : Value) : Prop := ∀ g, v.ownBlock = some g → u.ownBlock ≠ some g
theorem Apart.symm {v u : Value} (h : Apart v u) : Apart u v := fun g hu hv => h g hv hu
theorem Apart.nil (v : Value) : Apart v (.slice none 0 0) := fun g _ h => by cases h
theorem Own.keep {e : TypeId} {k : IntKind} {w w' : World} {B : Nat} {v u : Value} {l : List Nat} (h : Own e k w B v l) (hg : w.grownBy w' u.ownBlock) (hne : Apart v u) : Own e k w' B v l := by
  refine World.ownsRow.kept h hg ?_
  cases hv : v.ownBlock with
  | none => exact .inl rfl
  | some g => exact .inr (Ne.symm (hne g hv))
theorem Apart.app {e : TypeId} {k : IntKind} {w : World} {B : Nat} {v v' u : Value} {l : List Nat} (h : Apart v u) (hv : Own e k w B v l) (hw : v'.ownBlock = u.ownBlock ∨ v'.ownBlock = some w.heap.size) : Apart v v' := fun g hg => by
  rcases hw with hw | hw
  · rw [hw]; exact h g hg
  · rw [hw]
    intro e'
    have := (World.ownsRow.lt hv g hg).2
    rw [Option.some.inj e'] at this
    exact Nat.lt_irrefl _ this
theorem Blk.apart {w w' : World} {g : Nat} {t : TypeId} {cs : Array Value} {v : Value} (h : Blk w g t cs) (hg : w.grownBy w' v.ownBlock) (hne : v.ownBlock ≠ some g) : Blk w' g t cs :=
  (hg.block g h.lt fun e => hne e.symm).trans h
end Go.Proofs.Yteglhalninlapaa
set_option maxRecDepth 100000
namespace Go.Proofs.Yteglhalninlapaa
open Go.ChangeShapes Go.WideShapes Go.ChangeAt Go.RowKit
section
variable {a : Act} {w : World} {dst : Option Tmp} {ty : TypeId} {pos : String} {after : Array Edge} {gd : Option (Nat × Bool)} {s x : Operand} {m c B B' : Nat} {v : Value} {l kk : List Nat} {S e : TypeId} {k : IntKind} {ad : Addr}
/-- The slice ahead still holds its numbers, whether the append went into its row or into a new one. -/
theorem run_appN_old (E : Elt S e k) (hown : Own e k w B v l) (hrd : Nums k w B' (some ad) kk) (hk : kk.length = m) (hsz : l.length + m ≤ 1000000) {v' : Value} {w' : World}
    (hr : (Builtin.append_ #[S, S] ty #[v, .slice (some ad) m c]).run Try.prog w = .ok v' w') (hown' : Own e k w' B v' (l ++ kk)) : Own e k w' B v l := by
  obtain ⟨i, hi, hz, h1, h2⟩ := E.inf
  have hbytes : (l.length + m) * i.bytes ≤ 140737488355328 := Nat.le_trans (Nat.mul_le_mul hsz h2) (by omega)
  have hl1 : (nums k kk).length = m * i.size := by rw [nums_length, h1, Nat.mul_one, hk]
  rcases hown.2 with ⟨rfl, h0⟩ | ⟨g, cap, cur, rfl, hB, hg, hnc, hcm, hcs, ht⟩
  · rw [List.eq_nil_of_length_eq_zero h0]
    exact Own.nil
  · rw [Nat.mul_one] at hcs ht
    by_cases hroom : l.length + m ≤ cap
    · have hrun := run_append_room (P := Try.prog) w S ty e i E.und hi g l.length cap cur hg ad m c (nums k kk) hl1 (nums_reads hrd hk) (nums_oneCell kk) hroom (by rw [h1, Nat.mul_one, nums_length, hcs]; omega)
      rw [hrun] at hr
      cases hr
      rcases hown'.2 with ⟨e', _⟩ | ⟨g2, cap2, cur2, hv2, hB2, hg2, hnc2, hcm2, hcs2, ht2⟩
      · cases e'
      · simp only [Value.slice.injEq, Option.some.injEq, Addr.mk.injEq, and_true] at hv2
        obtain ⟨rfl, _, rfl⟩ := hv2
        refine ⟨hown.1, .inr ⟨_, _, cur2, rfl, hB, hg2, hnc, hcm, hcs2, ?_⟩⟩
        rw [Nat.mul_one] at ht2 ⊢
        have h3 : (cur2.toList.take (l ++ kk).length).take l.length = (nums k (l ++ kk)).take l.length := by rw [ht2]
        rw [List.take_take, Nat.min_eq_left (by rw [List.length_append]; omega), nums_append, List.take_left' (nums_length k l)] at h3
        exact h3
    · have holds : ∀ j u, (nums k l)[j]? = some u → w.cell? ((⟨g, 0, none⟩ : Addr).add j) = some u := hown.cells (g := g) rfl
      have hrun := run_append_grow (P := Try.prog) w S ty e i (.int k 0) E.und hi hz ⟨g, 0, none⟩ l.length cap (nums k l) (by rw [nums_length, h1, Nat.mul_one]) holds ad m c (nums k kk) hl1 (nums_reads hrd hk) (by omega) (by omega) (growslice_fits (by omega) hbytes)
      rw [hrun] at hr
      cases hr
      exact hown.alloc _
/-- An append, in a region that draws its order. -/
theorem gives_app {A : Option Addr} (E : Elt S e k) (hs : a.eval s = v) (hx : a.eval x = .slice A m c) (h0 : A = none → m = 0 ∧ c = 0) (hown : Own e k w B v l) (hrd : Nums k w B' A kk) (hk : kk.length = m) (hsz : l.length + m ≤ 1000000) (hB : B ≤ w.heap.size) :
    ∃ v' w', Own e k w' B v' (l ++ kk) ∧ Own e k w' B v l ∧ w.grownBy w' v.ownBlock ∧ (v'.ownBlock = v.ownBlock ∨ v'.ownBlock = some w.heap.size) ∧
      ∀ R : World → Prop, R w' → Gives Try.prog ⟨dst, .call { callee := .builtin .append, args := #[s, x], argTypes := #[S, S] }, ty, pos, after, gd⟩ a w v' R := by
  cases A with
  | some ad =>
    obtain ⟨v', w', hr, h1, h2⟩ := run_appN (ty := ty) (c := c) E hown hrd hk hsz hB
    refine ⟨v', w', h1, run_appN_old E hown hrd hk hsz hr h1, h2, run_appN_where E hown hrd hk hsz hr, fun R hR => gives_value ?_ hR⟩
    unfold execOp
    simp only [resolve, invoke, builtin, Sem.run_bind, Sem.run_pure, Result.andThen_ok, List.map_toArray, List.map_cons, List.map_nil, hs, hx, hr]
  | none =>
    obtain ⟨rfl, rfl⟩ := h0 rfl
    obtain rfl := List.eq_nil_of_length_eq_zero hk
    refine ⟨v, w, by rw [List.append_nil]; exact hown, hown, ⟨rfl, rfl, rfl, Nat.le_refl _, fun _ _ _ => rfl⟩, .inl rfl, fun R hR => gives_value ?_ hR⟩
    have hr : (Builtin.append_ #[S, S] ty #[v, .slice none 0 0]).run Try.prog w = .ok v w := by
      obtain ⟨i, hi, hz, h1, h2⟩ := E.inf
      exact run_append_owned_none (P := Try.prog) w B S ty e i 1 E.und hi v l.length _ hown
    unfold execOp
    simp only [resolve, invoke, builtin, Sem.run_bind, Sem.run_pure, Result.andThen_ok, List.map_toArray, List.map_cons, List.map_nil, hs, hx, hr]
theorem gives_appS {A : Option Addr} {T : Value → Prop} {R : Value → World → Prop} (E : Elt S e k) (hs : a.eval s = v) (hx : a.eval x = .slice A m c) (h0 : A = none → m = 0 ∧ c = 0) (hown : Own e k w B v l) (hrd : Nums k w B' A kk) (hk : kk.length = m) (hsz : l.length + m ≤ 1000000) (hB : B ≤ w.heap.size)
    (h : ∀ v' w', Own e k w' B v' (l ++ kk) → Own e k w' B v l → w.grownBy w' v.ownBlock → T v' ∧ R v' w') :
    ∃ v', T v' ∧ Gives Try.prog ⟨dst, .call { callee := .builtin .append, args := #[s, x], argTypes := #[S, S] }, ty, pos, after, gd⟩ a w v' (R v') := by
  obtain ⟨v', w', h1, h2, h3, _, h5⟩ := gives_app (dst := dst) (ty := ty) (pos := pos) (after := after) (gd := gd) E hs hx h0 hown hrd hk hsz hB
  obtain ⟨h6, h7⟩ := h v' w' h1 h2 h3
  exact ⟨v', h6, h5 _ h7⟩
end
end Go.Proofs.Yteglhalninlapaa
set_option maxRecDepth 100000
namespace Go.Proofs.Yteglhalninlapaa
open Go.ChangeShapes Go.WideShapes Go.ChangeAt Go.RowKit
/-- An append to a slice leaves any other slice of the call's own that is no longer as it was, even in the same row. -/
theorem Own.beside {e : TypeId} {k : IntKind} {w w' : World} {B B2 : Nat} {v u : Value} {l m : List Nat} (h : Own e k w B v l) (hu : Own e k w B2 u m) (hg : w.grownBy w' u.ownBlock) (hu' : Own e k w' B2 u m) (hlm : l.length ≤ m.length) : Own e k w' B v l := by
  by_cases hne : Apart v u
  · exact h.keep hg hne
  · rcases h.2 with ⟨rfl, h0⟩ | ⟨g, cap, cur, rfl, hB, hgc, hnc, hcm, hcs, ht⟩
    · rw [List.eq_nil_of_length_eq_zero h0]
      exact Own.nil
    · rcases hu.2 with ⟨rfl, _⟩ | ⟨g2, cap2, cur2, rfl, hB2, hgc2, hnc2, hcm2, hcs2, ht2⟩
      · exact absurd (Apart.nil _) hne
      · have hgg : g2 = g := by
          by_cases e' : g2 = g
          · exact e'
          · exact absurd (fun x hx hx2 => e' (by
              have h1 : g = x := Option.some.inj hx
              have h2 : g2 = x := Option.some.inj hx2
              rw [h1, h2])) hne
        subst hgg
        rw [hgc] at hgc2
        cases hgc2
        rcases hu'.2 with ⟨e', _⟩ | ⟨g3, cap3, cur3, hv3, hB3, hgc3, hnc3, hcm3, hcs3, ht3⟩
        · cases e'
        · simp only [Value.slice.injEq, Option.some.injEq, Addr.mk.injEq, and_true] at hv3
          obtain ⟨rfl, _, rfl⟩ := hv3
          have hcap : cap2 = cap := by omega
          subst hcap
          refine ⟨h.1, .inr ⟨_, _, cur3, rfl, hB, hgc3, hnc, hcm, hcs3, ?_⟩⟩
          rw [Nat.mul_one] at ht ht2 ht3 ⊢
          have h3 : (cur3.toList.take m.length).take l.length = (cur.toList.take m.length).take l.length := by rw [ht3, ht2]
          rw [List.take_take, List.take_take, Nat.min_eq_left hlm, ht] at h3
          exact h3
section
variable {P : Program} {ops : Array Oper}
theorem wp_region_rel2 {id : Nat} {Q : Exit → Act → World → Prop} {C : World → Prop} {S : Nat → Value → Prop} {D : Nat → (Nat → Value) → World → Prop} {K : Nat → (Nat → Value) → World → World → Prop} {a : Act} {w : World} {l : List Oper} (n : Nat)
    (hm : P.follows .mixedOrders = true) (ht : tidy l.toArray = true) (hB : tailB l.toArray n = true)
    (v0 : Nat → Value) (h0 : ∀ j, S j (v0 j)) (hD : ∀ i j vs w w', i < n → j ≠ i → Region.waitsFor .any l.toArray j i = false → D j vs w → K i vs w w' → D j vs w')
    (hL : ∀ j i vs v w, j ≠ i → Region.waitsFor .any l.toArray j i = false → D j vs w → D j (updV vs i v) w)
    (hC : C w.drew)
    (h : ∀ vs : Nat → Value, wpR P l.toArray S D K C (fun vs a' => ∀ w', C w' → (∀ k, k < n → D k vs w') → wpList P l.toArray Q (l.drop n) a' w') 0 vs (l.take n) a) : (Code.region id l.toArray true).wp P Q a w := by
  refine region_core (Γ := {vs : Nat → Value // ∀ j, S j (vs j)}) (C := fun γ L w' => C w' ∧ Closed l.toArray L ∧ ∀ k, k < n → L.getD k false = true → D k γ.1 w') n hm ht hB ⟨v0, h0⟩
    ⟨hC, (fun j o _ hl => by rw [getD_replicate_false] at hl; cases hl), fun k _ hk => by rw [getD_replicate_false] at hk; cases hk⟩ (fun γ => γ.1) ?_ ?_
  · intro i o hi γ L w' hsz hr ⟨hC', hcl, hDs⟩
    have hin : i < n := by
      have := (List.getElem?_eq_some_iff.1 hi).1
      rw [List.length_take] at this; omega
    have hun := getD_both (mem_ready.1 hr).1
    have hcl2 := closed_set hcl hr
    have key := (wpR_at γ.2 (l.take n) 0 a (h γ.1)).2 i o hi
    simp only [Nat.zero_add] at key
    have hwait : ∀ j, Region.waitsFor .any l.toArray i j = true → D j γ.1 w' := fun j hj => by
      have h1 := waits_ready hr hj
      have hji : j < i := by
        obtain ⟨o2, ho2, e2, he2, hb2, hon⟩ := Region.waitsFor_spec hj
        have := tidy_edge ht ho2 e2 he2 hb2
        omega
      exact hDs j (by omega) h1
    have step : ∀ (v : Value) (w2 : World), C w2 → (w2 = w' ∨ K i γ.1 w' w2) → D i (updV γ.1 i v) w2 →
        C w2 ∧ Closed l.toArray (L.setIfInBounds i true) ∧ ∀ k, k < n → (L.setIfInBounds i true).getD k false = true → D k (updV γ.1 i v) w2 := fun v w2 hc hb hd => by
      refine ⟨hc, hcl2, fun k hk hL' => ?_⟩
      by_cases e : k = i
      · subst e; exact hd
      · rw [getD_set_ne false (Ne.symm e)] at hL'
        have hw : Region.waitsFor .any l.toArray k i = false := by
          cases hx : Region.waitsFor .any l.toArray k i with
          | false => rfl
          | true =>
            have := waits_closed hcl hL' hx
            rw [hun] at this
            cases this
        refine hL k i _ v _ e hw ?_
        rcases hb with rfl | hb
        · exact hDs k hk hL'
        · exact hD i k _ _ _ hin e hw (hDs k hk hL') hb
    have upd : ∀ v, S i v → ∀ j, S j (updV γ.1 i v j) := fun v hv j => by
      by_cases e : j = i
      · subst e; rw [updV_self]; exact hv
      · rw [updV_ne _ _ e]; exact γ.2 j
    have keep : ∀ v j, L.getD j false = true → γ.1 j = updV γ.1 i v j := fun v j hj => by
      have : j ≠ i := fun e => by subst e; rw [hun] at hj; cases hj
      rw [updV_ne _ _ this]
    rcases key with ⟨k1, k2⟩ | ⟨k1, k2, k3⟩
    · obtain ⟨v, hv, hg⟩ := k2 w' hC' hwait
      refine ⟨⟨updV γ.1 i v, upd v hv⟩, keep v, .inl ⟨k1, ?_⟩⟩
      simp only [updV_self]
      exact gives_mono hg fun w2 ⟨h1, h2, h3⟩ => step v w2 h1 (.inr h2) h3
    · exact ⟨⟨updV γ.1 i undef, upd undef k2⟩, keep undef, .inr ⟨k1, updV_self _ _ _, step undef w' hC' (.inl rfl) (k3 w')⟩⟩
  · intro γ L w' hall ⟨hC', _, hDs⟩
    have key := (wpR_at γ.2 (l.take n) 0 a (h γ.1)).1
    have ez : (fun i => γ.1 (0 + i)) = γ.1 := funext fun i => by rw [Nat.zero_add]
    rw [ez] at key
    exact key w' hC' fun k hk => hDs k hk (hall k hk)
end
end Go.Proofs.Yteglhalninlapaa
set_option maxRecDepth 100000
namespace Go.Proofs.Yteglhalninlapaa
section
variable {P : Program} {ops : Array Oper}
def upB (d : Nat → Bool) (k : Nat) : Nat → Bool := fun j => if j = k then true else d j
/-- The operations in the order of the text, the k-th first; st tells which of them write. -/
def wpM (P : Program) (ops : Array Oper) (st : Nat → Bool) (D : (Nat → Bool) → World → Prop) (Q : Act → Prop) : Nat → List Oper → Act → Prop
  | _, [], a => Q a
  | k, o :: rest, a => ∃ v, ((Region.wanted o (yielded ops a.tmps) = true ∧ ((st k = true ∧ ∀ d w, d k = false → D d w → Gives P o a w v (D (upB d k))) ∨ (st k = false ∧ ∀ d w, D d w → Gives P o a w v (D d)))) ∨
      (Region.wanted o (yielded ops a.tmps) = false ∧ st k = false ∧ v = undef)) ∧ wpM P ops st D Q (k + 1) rest (a.put o.dst v)
section
variable {D : (Nat → Bool) → World → Prop} {Qk : Act → Prop} {o : Oper} {rest : List Oper} {a : Act} {v : Value} {k : Nat} {st : Nat → Bool}
theorem wpM_nil (h : Qk a) : wpM P ops st D Qk k [] a := h
theorem wpM_val (hk : st k = false) (hw : Region.wanted o (yielded ops a.tmps) = true) (h1 : ∀ d w, D d w → Gives P o a w v (D d)) (h2 : wpM P ops st D Qk (k + 1) rest (a.put o.dst v)) : wpM P ops st D Qk k (o :: rest) a :=
  ⟨v, .inl ⟨hw, .inr ⟨hk, h1⟩⟩, h2⟩
theorem wpM_put (hk : st k = true) (hw : Region.wanted o (yielded ops a.tmps) = true) (h1 : ∀ d w, d k = false → D d w → Gives P o a w v (D (upB d k))) (h2 : wpM P ops st D Qk (k + 1) rest (a.put o.dst v)) : wpM P ops st D Qk k (o :: rest) a :=
  ⟨v, .inl ⟨hw, .inl ⟨hk, h1⟩⟩, h2⟩
end
theorem wpM_vals {st : Nat → Bool} {D : (Nat → Bool) → World → Prop} {Qk : Act → Prop} : ∀ (l : List Oper) (k : Nat) (a : Act), wpM P ops st D Qk k l a → ∃ vals : Nat → Value, Qk (lexF l vals l.length a) ∧
    ∀ i o, l[i]? = some o → ((Region.wanted o (yielded ops (lexF l vals i a).tmps) = true ∧ ((st (k + i) = true ∧ ∀ d w, d (k + i) = false → D d w → Gives P o (lexF l vals i a) w (vals i) (D (upB d (k + i)))) ∨ (st (k + i) = false ∧ ∀ d w, D d w → Gives P o (lexF l vals i a) w (vals i) (D d)))) ∨
      (Region.wanted o (yielded ops (lexF l vals i a).tmps) = false ∧ st (k + i) = false ∧ vals i = undef))
  | [], _, a, h => ⟨fun _ => undef, h, fun i o hi => by simp at hi⟩
  | o :: l, k, a, h => by
    obtain ⟨v, h1, h2⟩ := h
    obtain ⟨vals, hq, hs⟩ := wpM_vals l (k + 1) _ h2
    refine ⟨fun j => match j with | 0 => v | j + 1 => vals j, ?_, fun i o' hi => ?_⟩
    · rw [List.length_cons, lexF_cons]; exact hq
    · cases i with
      | zero =>
        simp only [List.getElem?_cons_zero, Option.some.injEq] at hi
        subst hi
        exact h1
      | succ i =>
        rw [lexF_cons, show k + (i + 1) = k + 1 + i by omega]
        exact hs i o' (by simpa using hi)
theorem gives_imp {o : Oper} {a : Act} {w : World} {v : Value} {R R' : World → Prop} (h : Gives P o a w v R) (hr : ∀ w', R w' → R' w') : Gives P o a w v R' := by
  unfold Gives at *
  generalize (execOp a.eval o).run P w = r at *
  cases r with
  | ok n w' =>
    cases n <;> simp only at h ⊢
    case value u => exact ⟨h.1, hr _ h.2⟩
    case skip => exact ⟨h.1, hr _ h.2⟩
    case enter f args => exact h.mono fun e w'' ⟨he, hR⟩ => ⟨he, hr _ hR⟩
  | halt x w' => exact h
theorem wp_region_set {id : Nat} {Q : Exit → Act → World → Prop} {D : (Nat → Bool) → World → Prop} {a : Act} {w : World} {l : List Oper} (st : Nat → Bool) (n : Nat) (hst : ∀ j, st j = true → j < n) (hm : P.follows .mixedOrders = true) (ht : tidy l.toArray = true) (hB : tailB l.toArray n = true)
    (hirr : ∀ d d' w, (∀ j, st j = true → d j = d' j) → D d w → D d' w) (hC : D (fun _ => false) w.drew)
    (h : wpM P l.toArray st D (fun a' => ∀ w', D (fun _ => true) w' → wpList P l.toArray Q (l.drop n) a' w') 0 (l.take n) a) : (Code.region id l.toArray true).wp P Q a w := by
  obtain ⟨vals, hq, hs⟩ := wpM_vals _ _ _ h
  refine region_core (Γ := Unit) (C := fun _ L w => D (fun j => L.getD j false) w) n hm ht hB () (hirr _ _ _ (fun j _ => (getD_replicate_false _ j).symm) hC) (fun _ => vals) (fun i o hi γ L w hsz hr hC' => ⟨(), fun _ _ => rfl, ?_⟩)
    (fun _ L w' hall hC' => hq w' (hirr _ _ _ (fun j hj => hall j (hst j hj)) hC'))
  have hun := getD_both (mem_ready.1 hr).1
  have hlt : i < L.size := by
    obtain ⟨o', ho', _⟩ := (mem_ready.1 hr).2
    have := (Array.getElem?_eq_some_iff.1 ho').1
    simp at this; omega
  rcases hs i o hi with ⟨h1, ⟨h2, h3⟩ | ⟨h2, h3⟩⟩ | ⟨h1, h2, h3⟩
  · rw [Nat.zero_add] at h2 h3
    refine .inl ⟨h1, gives_imp (h3 _ w hun hC') fun w' hw' => hirr _ _ _ (fun j _ => ?_) hw'⟩
    unfold upB
    by_cases e : j = i
    · subst e; rw [if_pos rfl]; simp [hlt]
    · rw [if_neg e, getD_set_ne false (Ne.symm e)]
  · rw [Nat.zero_add] at h2
    refine .inl ⟨h1, gives_imp (h3 _ w hC') fun w' hw' => hirr _ _ _ (fun j hj => ?_) hw'⟩
    have e : j ≠ i := fun e => by subst e; rw [h2] at hj; cases hj
    rw [getD_set_ne false (Ne.symm e)]
  · rw [Nat.zero_add] at h2
    refine .inr ⟨h1, h3, hirr _ _ _ (fun j hj => ?_) hC'⟩
    have e : j ≠ i := fun e => by subst e; rw [h2] at hj; cases hj
    rw [getD_set_ne false (Ne.symm e)]
end
end Go.Proofs.Yteglhalninlapaa
set_option maxRecDepth 100000
namespace Go.Proofs.Yteglhalninlapaa
open Go.RowKit
/-- One operation, carried out in the world w; R holds of what it yields and of the world behind it. -/
def GivesE (P : Program) (o : Oper) (a : Act) (w : World) (R : Value → World → Prop) : Prop :=
  match (execOp a.eval o).run P w with
  | .ok (.value u) w' => R u w'
  | .ok .skip w' => R undef w'
  | .ok (.enter f args) w' => Calls P f args w' fun e w'' => ∃ v, e = .returned v ∧ R v w''
  | _ => False
theorem wp_of_givesE {P : Program} {o : Oper} {a : Act} {w : World} {R : Value → World → Prop} {K : Act → World → Prop} {Q : Exit → Act → World → Prop}
    (h : GivesE P o a w R) (hK : ∀ v w', R v w' → K (a.put o.dst v) w') : o.wp P a w K Q := by
  unfold GivesE at h
  unfold Oper.wp
  generalize (execOp a.eval o).run P w = r at *
  cases r with
  | ok n w' =>
    cases n <;> simp only at h <;> simp only [Oper.upon]
    case value u => exact hK _ _ h
    case skip => exact hK _ _ h
    case enter f args => exact h.mono fun e w'' ⟨v, he, hr⟩ => by subst he; exact hK _ _ hr
  | halt x w' => cases h
theorem givesE_mono {P : Program} {o : Oper} {a : Act} {w : World} {R R' : Value → World → Prop} (h : GivesE P o a w R) (hr : ∀ v w', R v w' → R' v w') : GivesE P o a w R' := by
  unfold GivesE at *
  generalize (execOp a.eval o).run P w = r at *
  cases r with
  | ok n w' =>
    cases n <;> simp only at h ⊢
    case value u => exact hr _ _ h
    case skip => exact hr _ _ h
    case enter f args => exact h.mono fun e w'' ⟨v, he, hR⟩ => ⟨v, he, hr _ _ hR⟩
  | halt x w' => exact h
section
variable {P : Program} {ops : Array Oper}
/-- The head of a region: the first n operations, in whatever order; behind them the tail. -/
theorem head_anyE {Γ : Type} {n g : Nat} {Q : Exit → Act → World → Prop} {vals : Γ → Nat → Value} {C : Γ → Array Bool → World → Prop} {a0 : Act} (ht : tidy ops = true) (hn : n ≤ ops.size)
    (hstep : ∀ k o, k < n → ops[k]? = some o → ∀ γ L w, L.size = ops.size → Closed ops L → k ∈ Region.ready .any ops L → C γ L w →
      ((Region.wanted o (yielded ops (fr ops (vals γ) (fun j => decide (j < k)) ops.size a0).tmps) = true ∧ GivesE P o (fr ops (vals γ) (fun j => decide (j < k)) ops.size a0) w (fun v w' => ∃ γ', (∀ j, L.getD j false = true → vals γ j = vals γ' j) ∧ vals γ' k = v ∧ C γ' (L.setIfInBounds k true) w')) ∨
      (Region.wanted o (yielded ops (fr ops (vals γ) (fun j => decide (j < k)) ops.size a0).tmps) = false ∧ ∃ γ', (∀ j, L.getD j false = true → vals γ j = vals γ' j) ∧ vals γ' k = undef ∧ C γ' (L.setIfInBounds k true) w)))
    (hsink : ∀ L, L.size = ops.size → Closed ops L → (∀ t, n ≤ t → t < ops.size → L.getD t true = false) → ∀ i, i < n → L.getD i true = false → ∀ t ∈ Region.ready .any ops L, t < n)
    (htail : ∀ γ L w, L.size = ops.size → (∀ i, i < n → L.getD i false = true) → (∀ t, n ≤ t → t < ops.size → L.getD t true = false) → C γ L w →
      wpAny P .any ops Q g L (fr ops (vals γ) (fun j => decide (j < n)) ops.size a0) w) :
    ∀ (f : Nat) (γ : Γ) (L : Array Bool) (w : World), L.size = ops.size → Closed ops L → (∀ t, n ≤ t → t < ops.size → L.getD t true = false) → cnt n L = f → C γ L w →
      wpAny P .any ops Q (f + g) L (fr ops (vals γ) (fun j => L.getD j false) ops.size a0) w
  | 0, γ, L, w, hs, hcl, htl, hc, hC => by
    have hall : ∀ i, i < n → L.getD i false = true := fun i hi => by
      have h1 : ∀ j ∈ List.range n, ¬ (!L.getD j true) = true := List.countP_eq_zero.1 hc
      have h2 := h1 i (List.mem_range.2 hi)
      exact getD_up (by omega) (by simpa using h2)
    rw [Nat.zero_add, fr_congr (l' := fun j => decide (j < n)) fun j hj => ?_]
    · exact htail γ L w hs hall htl hC
    · by_cases hjn : j < n
      · rw [hall j hjn]; simp [hjn]
      · rw [getD_both (htl j (by omega) hj)]; simp [hjn]
  | f + 1, γ, L, w, hs, hcl, htl, hc, hC => by
    rw [show f + 1 + g = (f + g) + 1 by omega]
    -- the least that has not come up may come up
    have hex : ∃ i, i < n ∧ L.getD i true = false := by
      have hpos : 0 < (List.range n).countP fun i => !L.getD i true := by unfold cnt at hc; omega
      obtain ⟨i, hi, h1⟩ := List.countP_pos_iff.1 hpos
      exact ⟨i, List.mem_range.1 hi, by simpa using h1⟩
    have hready : ∃ i, i ∈ Region.ready .any ops L := by
      obtain ⟨i, hi, hun⟩ := hex
      induction i using Nat.strongRecOn with
      | _ i ih =>
        by_cases hless : ∃ j, j < i ∧ L.getD j true = false
        · obtain ⟨j, hj, hjun⟩ := hless
          exact ih j hj (by omega) hjun
        · have hio : i < ops.size := by omega
          refine ⟨i, mem_ready.2 ⟨hun, ops[i], Array.getElem?_eq_getElem hio, fun e he hb => ?_⟩⟩
          have hlt := tidy_edge ht (Array.getElem?_eq_getElem hio) e he hb
          refine getD_up (by omega) ?_
          cases h0 : L.getD e.on true with
          | true => rfl
          | false => exact absurd ⟨e.on, hlt, h0⟩ hless
    obtain ⟨i0, hi0, hun0⟩ := hex
    refine ⟨fun h0 => (by obtain ⟨i, hi⟩ := hready; rw [h0] at hi; cases hi), fun i hi => ?_⟩
    have hin : i < n := hsink L hs hcl htl i0 hi0 hun0 i hi
    obtain ⟨hun, o, ho, _⟩ := mem_ready.1 hi
    have hio : i < ops.size := by omega
    obtain ⟨hex1, hex2⟩ := exec_same (vals := vals γ) (n := ops.size) (a := a0) ht ho hcl hi
    have hst := hstep i o hin ho γ L w hs hcl hi hC
    have hnext : ∀ γ' w', (∀ j, L.getD j false = true → vals γ j = vals γ' j) → C γ' (L.setIfInBounds i true) w' → wpAny P .any ops Q (f + g) (L.setIfInBounds i true) ((fr ops (vals γ) (fun j => L.getD j false) ops.size a0).put o.dst (vals γ' i)) w' := fun γ' w' hag hC' => by
      have ih := head_anyE (g := g) (Q := Q) ht hn hstep hsink htail f γ' (L.setIfInBounds i true) w' (by simpa using hs) (closed_set hcl hi) (fun t h1 h2 => by rw [getD_set_ne true (by omega)]; exact htl t h1 h2)
        (by
          have h1 : cnt n (L.setIfInBounds i true) + 1 = cnt n L := by
            refine countP_one (i := i) (by simpa using hun) ?_ (fun j hj => by rw [getD_set_ne true (Ne.symm hj)]) List.nodup_range (List.mem_range.2 hin)
            simp [show i < L.size by omega]
          omega) hC'
      rw [fr_congr (l' := fun j => L.getD j false || j == i) fun j _ => ?_, fr_set ht (getD_both hun) hio, ← fr_vals fun j _ hj => hag j hj] at ih
      · unfold dstAt at ih; rw [ho] at ih; exact ih
      · by_cases e : j = i
        · subst e; simp [show j < L.size by omega]
        · have : (j == i) = false := by simpa using e
          rw [getD_set_ne false (Ne.symm e), this, Bool.or_false]
    unfold wpOp
    simp only [ho]
    rcases hst with ⟨hw, hg⟩ | ⟨hw, γ', hag, hv, hC'⟩
    · rw [hex2, if_pos hw]
      refine .inl (wp_of_givesE (R := fun v w' => ∃ γ', (∀ j, L.getD j false = true → vals γ j = vals γ' j) ∧ vals γ' i = v ∧ C γ' (L.setIfInBounds i true) w') ?_ fun v w' ⟨γ', hag, hv, hC'⟩ => by rw [← hv]; exact hnext γ' w' hag hC')
      unfold GivesE at hg ⊢
      rw [hex1]; exact hg
    · rw [hex2, hw, if_neg (by simp)]
      rw [← hv]
      exact hnext γ' w hag hC'

theorem region_coreE {id : Nat} {Q : Exit → Act → World → Prop} {Γ : Type} {C : Γ → Array Bool → World → Prop} {a : Act} {w : World} {l : List Oper} (n : Nat) (hm : P.follows .mixedOrders = true) (ht : tidy l.toArray = true) (hB : tailB l.toArray n = true)
    (γ0 : Γ) (hC : C γ0 (Array.replicate l.length false) w.drew) (vals : Γ → Nat → Value)
    (hs : ∀ i o, (l.take n)[i]? = some o → ∀ γ L w, L.size = l.length → i ∈ Region.ready .any l.toArray L → C γ L w →
      ((Region.wanted o (yielded l.toArray (lexF (l.take n) (vals γ) i a).tmps) = true ∧ GivesE P o (lexF (l.take n) (vals γ) i a) w (fun v w' => ∃ γ', (∀ j, L.getD j false = true → vals γ j = vals γ' j) ∧ vals γ' i = v ∧ C γ' (L.setIfInBounds i true) w')) ∨
      (Region.wanted o (yielded l.toArray (lexF (l.take n) (vals γ) i a).tmps) = false ∧ ∃ γ', (∀ j, L.getD j false = true → vals γ j = vals γ' j) ∧ vals γ' i = undef ∧ C γ' (L.setIfInBounds i true) w)))
    (hq : ∀ γ L w', (∀ i, i < n → L.getD i false = true) → C γ L w' → wpList P l.toArray Q (l.drop n) (lexF (l.take n) (vals γ) (l.take n).length a) w') : (Code.region id l.toArray true).wp P Q a w := by
  refine wp_region_any hm ?_
  have hn : n ≤ l.toArray.size := by
    simp only [tailB, Bool.or_eq_true, Bool.and_eq_true, decide_eq_true_eq] at hB
    rcases hB with h | h <;> omega
  have hlen : (l.take n).length = n := by rw [List.length_take]; simp at hn; omega
  simp only [hlen] at hq
  have hfr : ∀ (γ : Γ) i, i ≤ n → lexF (l.take n) (vals γ) i a = fr l.toArray (vals γ) (fun j => decide (j < i)) l.toArray.size a := fun γ i hi => by
    have := lexF_fr (ops := l.toArray) (vals := vals γ) (a := a) hn i hi
    simpa using this
  have H := head_anyE (P := P) (ops := l.toArray) (n := n) (g := l.toArray.size - n) (Q := Q) (vals := vals) (C := C) (a0 := a) ht hn
    (fun k o hk ho γ L w' hsz _ hr hC' => by
      have hko : (l.take n)[k]? = some o := by rw [List.getElem?_take_of_lt hk]; simpa using ho
      have := hs k o hko γ L w' (by simpa using hsz) hr hC'
      rwa [hfr γ k (by omega)] at this)
    (fun L hL hcl htl i hi hun t hr => by
      obtain ⟨hunt, o, ho, _⟩ := mem_ready.1 hr
      have hto : t < l.toArray.size := (Array.getElem?_eq_some_iff.1 ho).1
      simp only [tailB, Bool.or_eq_true, Bool.and_eq_true, decide_eq_true_eq] at hB
      rcases hB with hB | ⟨⟨⟨hB1, hB2⟩, hB3⟩, _⟩
      · omega
      · rcases Nat.lt_or_ge t n with h | h
        · exact h
        · exact absurd hr (tail_waits hB2 hB3 hB1 ⟨hL, hcl, htl⟩ _ i rfl hi hun t h))
    (fun γ L w' hL hall htl hC' => by
      rw [← hfr γ n (Nat.le_refl n)]
      have hlist := hq γ L w' hall hC'
      have hLe : L = tailL n (l.toArray.size - n) := by
        apply Array.ext_getElem?
        intro j
        unfold tailL
        rw [show ((List.replicate n true ++ List.replicate (l.toArray.size - n) false).toArray)[j]? = (List.replicate n true ++ List.replicate (l.toArray.size - n) false)[j]? from List.getElem?_toArray .., List.getElem?_append]
        simp only [List.length_replicate]
        by_cases hj : j < n
        · have := hall j hj
          rw [if_pos hj]
          simp [show j < L.size by omega] at this
          simp [hj, show j < L.size by omega, this]
        · rw [if_neg hj]
          by_cases hj2 : j < l.toArray.size
          · have := htl j (by omega) hj2
            simp [show j < L.size by omega] at this
            rw [Array.getElem?_eq_getElem (by omega), this, List.getElem?_replicate, if_pos (by omega)]
          · rw [Array.getElem?_eq_none (by omega), List.getElem?_replicate, if_neg (by omega)]
      simp only [tailB, Bool.or_eq_true, Bool.and_eq_true, decide_eq_true_eq] at hB
      rcases hB with hB | ⟨⟨⟨hB1, hB2⟩, hB3⟩, hB4⟩
      · rw [show l.toArray.size - n = 0 by omega]
        have hd : l.drop n = [] := List.drop_eq_nil_of_le (by simp at hB; omega)
        rw [hd] at hlist
        refine ⟨?_, hlist⟩
        apply List.eq_nil_iff_forall_not_mem.2
        intro t hr
        obtain ⟨hunt, o, ho, _⟩ := mem_ready.1 hr
        have hto : t < l.toArray.size := (Array.getElem?_eq_some_iff.1 ho).1
        have := hall t (by omega)
        rw [getD_both hunt] at this
        cases this
      · have hdl : (l.drop n).length = l.toArray.size - n := by simp
        have := wpAny_of_seq (P := P) (ops := l.toArray) (md := .any) (Q' := Q) (l.drop n) n L _ w' (fun j => by simp [List.getElem?_drop]) (by rw [hdl, hLe]; exact hB4) hlist
        rwa [hdl] at this)
    (cnt n (Array.replicate l.toArray.size false)) γ0 (Array.replicate l.toArray.size false) w.drew (by simp) (fun j o _ hl => by rw [getD_replicate_false] at hl; cases hl)
    (fun t _ hts => getD_in (by simpa using hts) (getD_replicate_false _ _)) rfl (by simpa using hC)
  have hc : cnt n (Array.replicate l.toArray.size false) = n := by
    unfold cnt
    have : ∀ i ∈ List.range n, (!(Array.replicate l.toArray.size false).getD i true) = true := fun i hi => by
      have hi' := List.mem_range.1 hi
      have : i < l.length := by simp at hn; omega
      simp [this]
    rw [List.countP_eq_length.2 this, List.length_range]
  rw [hc, show n + (l.toArray.size - n) = l.toArray.size by omega] at H
  have hz : fr l.toArray (vals γ0) (fun j => (Array.replicate l.toArray.size false).getD j false) l.toArray.size a = a := by
    rw [fr_congr (l' := fun j => decide (j < 0)) fun j _ => by rw [getD_replicate_false]; simp]
    have := fr_stop (ops := l.toArray) (vals := vals γ0) (k := 0) l.toArray.size a
    rw [Nat.zero_add] at this
    exact this
  rw [hz] at H
  exact H

/-- The operations in the order of the text, the k-th first. -/
def wpE (P : Program) (ops : Array Oper) (S : Nat → Value → Prop) (D : Nat → (Nat → Value) → World → Prop) (K : Nat → (Nat → Value) → World → World → Prop) (C : (Nat → Bool) → World → Prop) (Q : (Nat → Value) → Act → Prop) : Nat → (Nat → Value) → List Oper → Act → Prop
  | _, vs, [], a => Q vs a
  | k, vs, o :: rest, a => ((Region.wanted o (yielded ops a.tmps) = true ∧ ∀ d w, d k = false → C d w → (∀ j, Region.waitsFor .any ops k j = true → D j vs w) →
      GivesE P o a w fun v w' => S k v ∧ C (upB d k) w' ∧ K k vs w w' ∧ D k (updV vs k v) w') ∨
      (Region.wanted o (yielded ops a.tmps) = false ∧ S k undef ∧ (∀ d w, C d w → C (upB d k) w) ∧ ∀ w, D k (updV vs k undef) w)) ∧ (S k (vs k) → wpE P ops S D K C Q (k + 1) vs rest (a.put o.dst (vs k)))
theorem wpE_at {S : Nat → Value → Prop} {D : Nat → (Nat → Value) → World → Prop} {K : Nat → (Nat → Value) → World → World → Prop} {C : (Nat → Bool) → World → Prop} {Qk : (Nat → Value) → Act → Prop} {vs : Nat → Value} (hS : ∀ j, S j (vs j)) : ∀ (l : List Oper) (k : Nat) (a : Act), wpE P ops S D K C Qk k vs l a →
    Qk vs (lexF l (fun i => vs (k + i)) l.length a) ∧ ∀ i o, l[i]? = some o →
      ((Region.wanted o (yielded ops (lexF l (fun i => vs (k + i)) i a).tmps) = true ∧ ∀ d w, d (k + i) = false → C d w → (∀ j, Region.waitsFor .any ops (k + i) j = true → D j vs w) →
        GivesE P o (lexF l (fun i => vs (k + i)) i a) w fun v w' => S (k + i) v ∧ C (upB d (k + i)) w' ∧ K (k + i) vs w w' ∧ D (k + i) (updV vs (k + i) v) w') ∨
      (Region.wanted o (yielded ops (lexF l (fun i => vs (k + i)) i a).tmps) = false ∧ S (k + i) undef ∧ (∀ d w, C d w → C (upB d (k + i)) w) ∧ ∀ w, D (k + i) (updV vs (k + i) undef) w))
  | [], k, a, h => ⟨h, fun i o hi => by simp at hi⟩
  | o :: l, k, a, h => by
    obtain ⟨h1, h2⟩ := h
    obtain ⟨hq, hs⟩ := wpE_at hS l (k + 1) _ (h2 (hS k))
    have e : (fun i => vs (k + 1 + i)) = fun i => vs (k + (i + 1)) := funext fun i => by rw [show k + 1 + i = k + (i + 1) by omega]
    rw [e] at hq hs
    refine ⟨?_, fun i o' hi => ?_⟩
    · rw [List.length_cons, lexF_cons]; exact hq
    · cases i with
      | zero =>
        simp only [List.getElem?_cons_zero, Option.some.injEq] at hi
        subst hi
        exact h1
      | succ i =>
        rw [lexF_cons, show k + (i + 1) = k + 1 + i by omega]
        exact hs i o' (by simpa using hi)
theorem wp_region_ex {id : Nat} {Q : Exit → Act → World → Prop} {C : (Nat → Bool) → World → Prop} {S : Nat → Value → Prop} {D : Nat → (Nat → Value) → World → Prop} {K : Nat → (Nat → Value) → World → World → Prop} {a : Act} {w : World} {l : List Oper} (n : Nat)
    (hm : P.follows .mixedOrders = true) (ht : tidy l.toArray = true) (hB : tailB l.toArray n = true)
    (v0 : Nat → Value) (h0 : ∀ j, S j (v0 j)) (hD : ∀ i j vs w w', i < n → j ≠ i → Region.waitsFor .any l.toArray j i = false → D j vs w → K i vs w w' → D j vs w')
    (hL : ∀ j i vs v w, j ≠ i → Region.waitsFor .any l.toArray j i = false → D j vs w → D j (updV vs i v) w)
    (hC : C (fun _ => false) w.drew)
    (h : ∀ vs : Nat → Value, wpE P l.toArray S D K C (fun vs a' => ∀ d w', (∀ k, k < n → d k = true) → C d w' → (∀ k, k < n → D k vs w') → wpList P l.toArray Q (l.drop n) a' w') 0 vs (l.take n) a) : (Code.region id l.toArray true).wp P Q a w := by
  refine region_coreE (Γ := {vs : Nat → Value // ∀ j, S j (vs j)}) (C := fun γ L w' => C (fun j => L.getD j false) w' ∧ Closed l.toArray L ∧ ∀ k, k < n → L.getD k false = true → D k γ.1 w') n hm ht hB ⟨v0, h0⟩
    ⟨by rw [show (fun j => (Array.replicate l.length false).getD j false) = fun _ => false from funext fun j => getD_replicate_false _ j]; exact hC, (fun j o _ hl => by rw [getD_replicate_false] at hl; cases hl), fun k _ hk => by rw [getD_replicate_false] at hk; cases hk⟩ (fun γ => γ.1) ?_ ?_
  · intro i o hi γ L w' hsz hr ⟨hC', hcl, hDs⟩
    have hin : i < n := by
      have := (List.getElem?_eq_some_iff.1 hi).1
      rw [List.length_take] at this; omega
    have hun := getD_both (mem_ready.1 hr).1
    have hlt : i < L.size := by
      obtain ⟨o', ho', _⟩ := (mem_ready.1 hr).2
      have := (Array.getElem?_eq_some_iff.1 ho').1
      simp at this; omega
    have hup : (fun j => (L.setIfInBounds i true).getD j false) = upB (fun j => L.getD j false) i := funext fun j => by
      unfold upB
      by_cases e : j = i
      · subst e; rw [if_pos rfl]; simp [hlt]
      · rw [if_neg e, getD_set_ne false (Ne.symm e)]
    have hcl2 := closed_set hcl hr
    have key := (wpE_at γ.2 (l.take n) 0 a (h γ.1)).2 i o hi
    simp only [Nat.zero_add] at key
    have hwait : ∀ j, Region.waitsFor .any l.toArray i j = true → D j γ.1 w' := fun j hj => by
      have h1 := waits_ready hr hj
      have hji : j < i := by
        obtain ⟨o2, ho2, e2, he2, hb2, hon⟩ := Region.waitsFor_spec hj
        have := tidy_edge ht ho2 e2 he2 hb2
        omega
      exact hDs j (by omega) h1
    have step : ∀ (v : Value) (w2 : World), C (upB (fun j => L.getD j false) i) w2 → (w2 = w' ∨ K i γ.1 w' w2) → D i (updV γ.1 i v) w2 →
        C (fun j => (L.setIfInBounds i true).getD j false) w2 ∧ Closed l.toArray (L.setIfInBounds i true) ∧ ∀ k, k < n → (L.setIfInBounds i true).getD k false = true → D k (updV γ.1 i v) w2 := fun v w2 hc hb hd => by
      refine ⟨by rw [hup]; exact hc, hcl2, fun k hk hL' => ?_⟩
      by_cases e : k = i
      · subst e; exact hd
      · rw [getD_set_ne false (Ne.symm e)] at hL'
        have hw : Region.waitsFor .any l.toArray k i = false := by
          cases hx : Region.waitsFor .any l.toArray k i with
          | false => rfl
          | true =>
            have := waits_closed hcl hL' hx
            rw [hun] at this
            cases this
        refine hL k i _ v _ e hw ?_
        rcases hb with rfl | hb
        · exact hDs k hk hL'
        · exact hD i k _ _ _ hin e hw (hDs k hk hL') hb
    have upd : ∀ v, S i v → ∀ j, S j (updV γ.1 i v j) := fun v hv j => by
      by_cases e : j = i
      · subst e; rw [updV_self]; exact hv
      · rw [updV_ne _ _ e]; exact γ.2 j
    have keep : ∀ v j, L.getD j false = true → γ.1 j = updV γ.1 i v j := fun v j hj => by
      have : j ≠ i := fun e => by subst e; rw [hun] at hj; cases hj
      rw [updV_ne _ _ this]
    rcases key with ⟨k1, k2⟩ | ⟨k1, k2, k3, k4⟩
    · refine .inl ⟨k1, givesE_mono (k2 _ w' hun hC' hwait) fun v w2 ⟨h1, h2, h3, h4⟩ => ⟨⟨updV γ.1 i v, upd v h1⟩, keep v, updV_self _ _ _, step v w2 h2 (.inr h3) h4⟩⟩
    · exact .inr ⟨k1, ⟨updV γ.1 i undef, upd undef k2⟩, keep undef, updV_self _ _ _, step undef w' (k3 _ _ hC') (.inl rfl) (k4 w')⟩
  · intro γ L w' hall ⟨hC', _, hDs⟩
    have key := (wpE_at γ.2 (l.take n) 0 a (h γ.1)).1
    have ez : (fun i => γ.1 (0 + i)) = γ.1 := funext fun i => by rw [Nat.zero_add]
    rw [ez] at key
    exact key _ w' hall hC' fun k hk => hDs k hk (hall k hk)
end
end Go.Proofs.Yteglhalninlapaa
set_option maxRecDepth 100000
namespace Go.Proofs.Yteglhalninlapaa
open Go.ChangeShapes Go.WideShapes Go.ChangeAt Go.RowKit
attribute [local go_sem] Gives GivesE
theorem gE_ldA {a : Act} {w : World} {dst : Option Tmp} {ty : TypeId} {pos : String} {after : Array Edge} {x : Operand} {g o n : Nat} {f : Nat → Nat} {T : TypeId} {gd : Option (Nat × Bool)} {R : Value → World → Prop} (hT : ArT T n) (hx : a.eval x = .pointer (some ⟨g, o, none⟩)) (hb : w.rangeAt g o (ar n f).toList) (hR : R (.agg (ar n f)) w) : GivesE Try.prog ⟨dst, .load T x, ty, pos, after, gd⟩ a w R := by
  unfold GivesE
  simp only [execOp, hx, Sem.run_bind, run_ldm hT hb, Result.andThen_ok, Sem.run_pure]
  exact hR
section
variable {a : Act} {w : World} {dst : Option Tmp} {ty r : TypeId} {pos : String} {after : Array Edge} {x y : Operand} {f g : Nat → Nat} {gd : Option (Nat × Bool)} {R : Value → World → Prop} {T : TypeId} {n : Nat}
theorem exec_eqU (hT : Try.prog.underlying T = some (.array n 5)) (hg : Try.prog.eqGuardType Try.prog.depth T = false) (hx : a.eval x = .agg (ar n f)) (hy : a.eval y = .agg (ar n g)) : (execOp a.eval ⟨dst, .binOp .eql T x y r, ty, pos, after, gd⟩).run Try.prog w = .ok (.value (.bool (eqA n f g))) w := by
  have h1 : (eqGuard .eql T x y (.agg (ar n f)) (.agg (ar n g))).run Try.prog w = .ok () w := by
    simp [eqGuard, hg, go_sem]
  simp only [execOp, hx, hy, Sem.run_bind, h1, run_eql_ar hT, Result.andThen_ok, Sem.run_pure]
theorem gE_eqU (hT : Try.prog.underlying T = some (.array n 5)) (hg : Try.prog.eqGuardType Try.prog.depth T = false) (hx : a.eval x = .agg (ar n f)) (hy : a.eval y = .agg (ar n g)) (hR : R (.bool (eqA n f g)) w) : GivesE Try.prog ⟨dst, .binOp .eql T x y r, ty, pos, after, gd⟩ a w R := by
  unfold GivesE
  rw [exec_eqU hT hg hx hy]
  exact hR
end
section
variable {ops : Array Oper} {a : Act} {rest : List Oper} {dst : Option Tmp} {ty r : TypeId} {pos : String} {after : Array Edge} {x y : Operand} {f g : Nat → Nat} {gd : Option (Nat × Bool)} {C : World → Prop} {Qk : Act → Prop} {T : TypeId} {n : Nat}
theorem keqU (b : Bool) (hT : Try.prog.underlying T = some (.array n 5)) (hg : Try.prog.eqGuardType Try.prog.depth T = false) (hwt : Region.wanted ⟨dst, .binOp .eql T x y r, ty, pos, after, gd⟩ (yielded ops a.tmps) = true) (hx : a.eval x = .agg (ar n f)) (hy : a.eval y = .agg (ar n g)) (hb : eqA n f g = b)
    (h : wpK Try.prog ops C Qk rest (a.put dst (.bool b))) : wpK Try.prog ops C Qk (⟨dst, .binOp .eql T x y r, ty, pos, after, gd⟩ :: rest) a :=
  wpK_val hwt (fun w hw => gives_value (w' := w) (by rw [exec_eqU hT hg hx hy, hb]) hw) h
theorem kneU (b : Bool) (hT : Try.prog.underlying T = some (.array n 5)) (hg : Try.prog.eqGuardType Try.prog.depth T = false) (hwt : Region.wanted ⟨dst, .binOp .neq T x y r, ty, pos, after, gd⟩ (yielded ops a.tmps) = true) (hx : a.eval x = .agg (ar n f)) (hy : a.eval y = .agg (ar n g)) (hb : (!eqA n f g) = b)
    (h : wpK Try.prog ops C Qk rest (a.put dst (.bool b))) : wpK Try.prog ops C Qk (⟨dst, .binOp .neq T x y r, ty, pos, after, gd⟩ :: rest) a :=
  wpK_val hwt (fun w hw => gives_value (w' := w) (by
    have h1 : (eqGuard .neq T x y (.agg (ar n f)) (.agg (ar n g))).run Try.prog w = .ok () w := by
      simp [eqGuard, hg, go_sem]
    simp only [execOp, hx, hy, Sem.run_bind, h1, run_neq_ar hT, Result.andThen_ok, Sem.run_pure, hb]) hw) h
/-- A literal of one constant part, in such a region. -/
theorem kbldOne {i : Nat} {v : Value} {cs : Array Value} (hwt : Region.wanted ⟨dst, .build T #[(i, .const v)], ty, pos, after, gd⟩ (yielded ops a.tmps) = true) (hb : ∀ w, (Instr.build T #[(i, v)]).run Try.prog w = .ok (.agg cs) w)
    (h : wpK Try.prog ops C Qk rest (a.put dst (.agg cs))) : wpK Try.prog ops C Qk (⟨dst, .build T #[(i, .const v)], ty, pos, after, gd⟩ :: rest) a :=
  wpK_val hwt (fun w hw => gives_value (w' := w) (by
    have e : (#[(i, Operand.const v)] : Array (Nat × Operand)).map (fun (i, x) => (i, a.eval x)) = #[(i, v)] := by simp only [List.map_toArray, List.map_cons, List.map_nil]; rfl
    simp only [execOp, Sem.run_bind, e, hb, Result.andThen_ok, Sem.run_pure]) hw) h
/-- A literal of no part. -/
theorem kbldZ {cs : Array Value} (hwt : Region.wanted ⟨dst, .build T #[], ty, pos, after, gd⟩ (yielded ops a.tmps) = true) (hb : ∀ w, (Instr.build T #[]).run Try.prog w = .ok (.agg cs) w)
    (h : wpK Try.prog ops C Qk rest (a.put dst (.agg cs))) : wpK Try.prog ops C Qk (⟨dst, .build T #[], ty, pos, after, gd⟩ :: rest) a :=
  wpK_val hwt (fun w hw => gives_value (w' := w) (by
    have e : (#[] : Array (Nat × Operand)).map (fun (i, x) => (i, a.eval x)) = #[] := by simp
    simp only [execOp, Sem.run_bind, e, hb, Result.andThen_ok, Sem.run_pure]) hw) h
end
namespace DvP
end DvP
end Go.Proofs.Yteglhalninlapaa
set_option maxRecDepth 100000
namespace Go.Proofs.Yteglhalninlapaa
open Go.ChangeShapes Go.WideShapes Go.ChangeAt Go.RowKit
attribute [local go_sem] GivesE
/-- What is known of a value: its kind, what a world holds of it, one of the kind. -/
structure Sp where
  S : Value → Prop
  D : Value → World → Prop
  v0 : Value
structure Sp.ok (c : Sp) : Prop where
  some : c.S c.v0
  keep : ∀ v w1 w2, c.D v w1 → Below w1.heap.size w1 w2 → c.D v w2
def lkSp : List (Nat × Sp) → Nat → Option Sp
  | [], _ => none
  | (p, c) :: r, j => if j = p then some c else lkSp r j
def yS (fx : List (Option Value)) (sp : List (Nat × Sp)) (j : Nat) (v : Value) : Prop := match lkSp sp j with
  | some c => c.S v
  | none => match fx[j]? with
    | some (some u) => v = u
    | _ => True
def yV (fx : List (Option Value)) (sp : List (Nat × Sp)) (j : Nat) : Value := match lkSp sp j with
  | some c => c.v0
  | none => match fx[j]? with
    | some (some u) => u
    | _ => undef
theorem lk_mem : ∀ {sp : List (Nat × Sp)} {j : Nat} {c : Sp}, lkSp sp j = some c → ∃ p, (p, c) ∈ sp
  | [], _, _, h => by cases h
  | (p, d) :: r, j, c, h => by
    unfold lkSp at h
    split at h
    · cases h; exact ⟨p, List.mem_cons_self⟩
    · obtain ⟨q, hq⟩ := lk_mem h
      exact ⟨q, List.mem_cons_of_mem _ hq⟩
theorem yS_ok (fx : List (Option Value)) {sp : List (Nat × Sp)} (h : ∀ x ∈ sp, x.2.ok) (j : Nat) : yS fx sp j (yV fx sp j) := by
  unfold yS yV
  split
  · rename_i c hc
    obtain ⟨p, hp⟩ := lk_mem hc
    exact (h _ hp).some
  · split
    · rfl
    · trivial
def yD (sp : List (Nat × Sp)) (j : Nat) (vs : Nat → Value) (w : World) : Prop := match lkSp sp j with
  | some c => c.D (vs j) w
  | none => True
theorem yD_keep {sp : List (Nat × Sp)} (h : ∀ x ∈ sp, x.2.ok) {j : Nat} {vs : Nat → Value} {w1 w2 : World} (hd : yD sp j vs w1) (hb : Below w1.heap.size w1 w2) : yD sp j vs w2 := by
  unfold yD at hd ⊢
  split
  · rename_i c hc
    rw [hc] at hd
    obtain ⟨p, hp⟩ := lk_mem hc
    exact (h _ hp).keep _ _ _ hd hb
  · trivial
theorem yD_loc {sp : List (Nat × Sp)} {i j : Nat} {vs : Nat → Value} {v : Value} {w : World} (hji : j ≠ i) (h : yD sp j vs w) : yD sp j (updV vs i v) w := by
  unfold yD at h ⊢
  rw [updV_ne _ _ hji]
  exact h
theorem yD_some {sp : List (Nat × Sp)} {p : Nat} {c : Sp} {vs : Nat → Value} {v : Value} {w : World} (hc : lkSp sp p = some c) (h : c.D v w) : yD sp p (updV vs p v) w := by
  unfold yD
  rw [hc, updV_self]
  exact h
theorem wp_region_y {id : Nat} {Q : Exit → Act → World → Prop} {a : Act} {w : World} {l : List Oper} (fx : List (Option Value)) (sp : List (Nat × Sp)) (hsp : ∀ x ∈ sp, x.2.ok)
    (n : Nat) (hm : Try.prog.follows .mixedOrders = true) (ht : tidy l.toArray = true) (hB : tailB l.toArray n = true)
    (h : ∀ vs : Nat → Value, wpE Try.prog l.toArray (yS fx sp) (yD sp) (fun _ _ w w' => Below w.heap.size w w') (fun _ w' => Below w.heap.size w w') (fun vs a' => ∀ (d : Nat → Bool) w', (∀ k, k < n → d k = true) → Below w.heap.size w w' → (∀ k, k < n → yD sp k vs w') → wpList Try.prog l.toArray Q (l.drop n) a' w') 0 vs (l.take n) a) :
    (Code.region id l.toArray true).wp Try.prog Q a w :=
  wp_region_ex (S := yS fx sp) (D := yD sp) (K := fun _ _ w w' => Below w.heap.size w w') (C := fun _ w' => Below w.heap.size w w') n hm ht hB _ (yS_ok fx hsp) (fun i j vs w w' _ _ _ h hb => yD_keep hsp h hb)
    (fun j i vs v w hji _ h => yD_loc hji h) (Below.refl _ _).drew h
end Go.Proofs.Yteglhalninlapaa
set_option maxRecDepth 100000
namespace Go.Proofs.Yteglhalninlapaa
open Go.ChangeShapes Go.WideShapes Go.ChangeAt Go.RowKit
section
variable {α : Type} {k : Nat} {en : α → List Value} {E L : TypeId}
theorem run_lit1 (hE : EltX E k en) (hu : Try.prog.underlying L = some (.slice E)) (x : α) {v : Value} (hv : v.cells.toList = en x) (hk : k ≤ 1000) (w : World) :
    (Instr.buildSlice L 1 #[(0, v)]).run Try.prog w = .ok (.slice (some ⟨w.heap.size, 0, none⟩) 1 1) (w.alloc (.cells (en x).toArray E)) := by
  obtain ⟨ie, z, hi, hz, h1, h2, h3⟩ := hE.info
  refine run_buildSlice w L E 1 _ _ ie z hu hi hz (by rw [h1]; omega) (by rw [h1]; have := hE.pos; omega) ?_
  have hcs : v.cells.size = k := by rw [← Array.length_toList, hv, hE.len]
  have := fill_consec (place := fun i => some (i * ie.size, ie.size)) [v] [(0, k)] [] (((Array.range (1 * ie.size)).map (z.cells[· % z.cells.size]!)).toList) 0 ⟨rfl, trivial⟩ (by simp [hcs]) (by simp [h1]) (fun j hj => by
    have : j = 0 := by simp at hj; exact hj
    subst this
    simp [h1])
  simp only [List.nil_append, List.map_cons, List.map_nil, List.sum_cons, List.sum_nil, Nat.add_zero, List.flatMap_cons, List.flatMap_nil, List.append_nil, hv] at this
  rw [List.drop_eq_nil_of_le (by simp [h1]), List.append_nil, Array.toArray_toList] at this
  exact this
/-- What such a literal is. -/
theorem sli_lit1 {S : Nat → Prop} (hE : EltX E k en) (x : α) (w : World) (hS : S w.heap.size) : Sli k en S (w.alloc (.cells (en x).toArray E)) (some ⟨w.heap.size, 0, none⟩) [x] 1 1 where
  len := rfl
  cap := Nat.le_refl _
  max := by unfold maxLen; omega
  none e := by cases e
  lst _ := ⟨w.heap.size, 0, rfl, hS, by simp, fun i y hi j u hj => by
    have hb : Blk (w.alloc (.cells (en x).toArray E)) w.heap.size E (en x).toArray := Blk.new _ _ _
    cases i with
    | zero =>
      simp only [List.getElem?_cons_zero, Option.some.injEq] at hi
      subst hi
      rw [Nat.zero_add, Nat.zero_mul, Nat.zero_add, hb.cell]
      simpa using hj
    | succ i => simp at hi⟩
variable {ops : Array Oper} {Q : Exit → Act → World → Prop} {a : Act} {w : World} {rest : List Oper} {dst : Option Tmp} {ty : TypeId} {pos : String} {after : Array Edge} {o : Operand} {x : α} {v : Value}
theorem wlit1 (hE : EltX E k en) (hu : Try.prog.underlying L = some (.slice E)) (hk : k ≤ 1000) (ho : a.eval o = v) (hv : v.cells.toList = en x)
    (h : wpList Try.prog ops Q rest (a.put dst (.slice (some ⟨w.heap.size, 0, none⟩) 1 1)) (w.alloc (.cells (en x).toArray E))) :
    wpList Try.prog ops Q (⟨dst, .buildSlice L 1 #[(0, o)], ty, pos, after, none⟩ :: rest) a w := by
  have hm : (#[(0, o)] : Array (Nat × Operand)).map (fun (i, x) => (i, a.eval x)) = #[(0, v)] := by
    simp only [List.map_toArray, List.map_cons, List.map_nil, ho]
  refine wpList_plain rfl fun K hK => ?_
  unfold Oper.wp execOp
  simp only [Sem.run_bind, hm, run_lit1 hE hu x hv hk w, Result.andThen_ok, Sem.run_pure]
  exact hK _ _ h
theorem gE_lit1 {gd : Option (Nat × Bool)} {R : Value → World → Prop} (hE : EltX E k en) (hu : Try.prog.underlying L = some (.slice E)) (hk : k ≤ 1000) (ho : a.eval o = v) (hv : v.cells.toList = en x)
    (h : R (.slice (some ⟨w.heap.size, 0, none⟩) 1 1) (w.alloc (.cells (en x).toArray E))) : GivesE Try.prog ⟨dst, .buildSlice L 1 #[(0, o)], ty, pos, after, gd⟩ a w R := by
  have hm : (#[(0, o)] : Array (Nat × Operand)).map (fun (i, x) => (i, a.eval x)) = #[(0, v)] := by
    simp only [List.map_toArray, List.map_cons, List.map_nil, ho]
  unfold GivesE execOp
  simp only [Sem.run_bind, hm, run_lit1 hE hu x hv hk w, Result.andThen_ok, Sem.run_pure]
  exact h
theorem gE_slX {gd : Option (Nat × Bool)} {R : Value → World → Prop} {S : Nat → Prop} {A : Option Addr} {l : List α} {n cap i j : Nat} {x y z : Operand} (hE : EltX E k en) (hu : Try.prog.underlying L = some (.slice E)) (hel : Try.prog.elem L = E)
    (hx : a.eval x = .slice A n cap) (hy : a.eval y = .int .i64 i) (hz : a.eval z = .int .i64 j) (h : Sli k en S w A l n cap) (hij : i ≤ j) (hj : j ≤ n)
    (hR : ∀ A', Sli k en S w A' ((l.drop i).take (j - i)) (j - i) (cap - i) → R (.slice A' (j - i) (cap - i)) w) : GivesE Try.prog ⟨dst, .slice L x (some y) (some z) none, ty, pos, after, gd⟩ a w R := by
  obtain ⟨A', hr, ha⟩ := run_slX hE hu hel h hij hj
  unfold GivesE execOp
  simp only [Sem.run_bind, Option.map_some, Option.map_none, Sem.run_pure, hx, hy, hz, hr, Result.andThen_ok]
  exact hR A' ha
/-- A slice of these elements, wherever it lies in blocks of S. -/
def spX (k : Nat) (en : α → List Value) (S : Nat → Prop) (l : List α) : Sp := ⟨fun v => ∃ (A : Option Addr) (c : Nat), v = .slice A l.length c, fun v w => ∃ (A : Option Addr) (c : Nat), v = .slice A l.length c ∧ Sli k en S w A l l.length c, .slice none l.length 0⟩
theorem spX_ok (k : Nat) (en : α → List Value) (S : Nat → Prop) (l : List α) : (spX k en S l).ok := ⟨⟨none, 0, rfl⟩, fun v w1 w2 ⟨A, c, h1, h2⟩ hb => ⟨A, c, h1, h2.turn (Turn.of_new (S := fun _ => False) hb) fun _ _ _ e => e⟩⟩
end
end Go.Proofs.Yteglhalninlapaa
set_option maxRecDepth 100000
namespace Go.Proofs.Yteglhalninlapaa
open Go.ChangeShapes Go.WideShapes Go.ChangeAt Go.RowKit
attribute [local go_sem] Gives GivesE
namespace MbP
open MbM
/-- Block g holds the member s; its lists lie in blocks of I. -/
def RM (w : World) (g : Nat) (I : Nat → Prop) (s : Ls) : Prop := ∃ A1 c1 A2 c2 A3 c3, Rm w g I s A1 c1 A2 c2 A3 c3
/-- What a call leaves of it. -/
def RMo (w : World) (g : Nat) (I : Nat → Prop) (s : Ls) (w' : World) : Prop := ∃ J, RM w' g J s ∧ (∀ b, J b → I b ∨ w.heap.size ≤ b) ∧ Turn (fun b => b = g) w w'
theorem RMo.same {w w' : World} {g : Nat} {I : Nat → Prop} {s : Ls} (h : RM w g I s) (hb : Below w.heap.size w w') : RMo w g I s w' := by
  obtain ⟨A1, c1, A2, c2, A3, c3, h⟩ := h
  exact ⟨I, ⟨A1, c1, A2, c2, A3, c3, h.below hb (Nat.le_refl _)⟩, fun b e => .inl e, Turn.of_new hb⟩
def Ls.may (s : Ls) (i : Int) : Bool := decide (0 ≤ i ∧ i < s.n)
/-- What Read tells. -/
def readE (s : Ls) (i : Int) : Int := if s.may i then (if s.fails then 10 else 0) else 2
def readS (s : Ls) (i : Int) : Nat → Nat := if s.may i then (if s.fails then zero else seenL s i) else zero
set_option maxRecDepth 100000 in
theorem read_any (g : Nat) (I : Nat → Prop) (s : Ls) (i : Int) (w : World) (h : RM w g I s) :
    Calls Try.prog 40 #[.pointer (some ⟨g, 0, none⟩), .int .i64 i] w fun e w' => e = .returned (.tuple #[.agg (ar 64 (readS s i)), .int .i64 (readE s i)]) ∧ Below w.heap.size w w' := by
  obtain ⟨A1, c1, A2, c2, A3, c3, h⟩ := h
  have H := hid h
  clear h
  obtain ⟨q, hq⟩ : ∃ q, q = s.may i := ⟨_, rfl⟩
  obtain ⟨F, hF⟩ : ∃ F, F = s.fails := ⟨_, rfl⟩
  obtain ⟨X, hX⟩ : ∃ X, X = seenL s i := ⟨_, rfl⟩
  unfold readS readE
  rw [← hq, ← hF, ← hX]
  have HQ := hid (show decide (0 ≤ i ∧ i < s.n) = q from hq.symm)
  have HF := hid hF
  have HX := hid hX
  clear hq hF hX
  go_enter Try.func40, Try.ntmps40
  go_upto_region 1 with (with_reducible apply alA tSe)
  generalize hw1 : World.alloc w _ = w1
  have b1 := hid (show Blk w1 w.heap.size 32 (ar 64 fun _ => 0) by rw [← hw1]; exact Blk.new _ _ _)
  have BEL := hid (show Below w.heap.size w w1 by rw [← hw1]; exact (Below.refl _ _).alloc (Nat.le_refl _) _)
  have H1 := hid (H.out.below BEL.out (Nat.le_refl _))
  clear hw1 H
  go_wp2_with fail
  refine (may_any g I s A1 c1 A2 c2 A3 c3 i q HQ.out w1 H1.out).mono ?_
  rintro e w' ⟨rfl, rfl⟩
  have bz := b1.out.setRow_same (ar 64 fun _ => 0)
  have bb := hid (below_setRow BEL.out (Nat.le_refl w.heap.size) (ar 64 fun _ => 0))
  cases q with
  | false =>
    go_wp2_with (first | ((with_reducible apply bldZr (n := 64)); kernel_rfl) | ((with_reducible apply stA tSe); rfl; rfl; exact b1.out))
    apply retA tSe Try.results40
    · rfl
    · rfl
    · rfl
    · exact bz
    · exact ⟨rfl, bb.out⟩
  | true =>
    have p4 : w1.cell? ⟨g, 4, none⟩ = some (.bool F) := by rw [HF.out]; exact H1.out.blk.cell 4
    cases F with
    | true =>
      go_wp2_with (first | ((with_reducible apply bldZr (n := 64)); kernel_rfl) | ((with_reducible apply stA tSe); rfl; rfl; exact b1.out))
      apply retA tSe Try.results40
      · rfl
      · rfl
      · rfl
      · exact bz
      · exact ⟨rfl, bb.out⟩
    | false =>
      clear bz bb
      go_wp2_with fail
      refine (seen_any g I s A1 c1 A2 c2 A3 c3 i w1 H1.out).mono ?_
      rintro e w2 ⟨rfl, h2⟩
      rw [← HX.out]
      have b2 := hid (b1.out.below h2 b1.out.lt)
      have B2 := hid (BEL.out.trans (h2.mono BEL.out.size))
      clear b1 BEL H1 h2 p4
      have bz := b2.out.setRow_same (ar 64 X)
      have bb := hid (below_setRow B2.out (Nat.le_refl w.heap.size) (ar 64 X))
      go_wp2_with ((with_reducible apply stA tSe); rfl; rfl; exact b2.out)
      apply retA tSe Try.results40
      · rfl
      · rfl
      · rfl
      · exact bz
      · exact ⟨rfl, bb.out⟩
def lookE (s : Ls) (i : Int) : Int := if s.may i then 0 else 2
def lookS (s : Ls) (i : Int) : Nat → Nat := if s.may i then (find s.dur i).getD zero else zero
set_option maxRecDepth 100000 in
theorem look_any (g : Nat) (I : Nat → Prop) (s : Ls) (i : Int) (w : World) (h : RM w g I s) :
    Calls Try.prog 41 #[.pointer (some ⟨g, 0, none⟩), .int .i64 i] w fun e w' => e = .returned (.tuple #[.agg (ar 64 (lookS s i)), .int .i64 (lookE s i)]) ∧ Below w.heap.size w w' := by
  obtain ⟨A1, c1, A2, c2, A3, c3, h⟩ := h
  have H := hid h
  clear h
  obtain ⟨q, hq⟩ : ∃ q, q = s.may i := ⟨_, rfl⟩
  obtain ⟨f, hf⟩ : ∃ f, f = (find s.dur i).getD zero := ⟨_, rfl⟩
  unfold lookS lookE
  rw [← hq, ← hf]
  have HQ := hid (show decide (0 ≤ i ∧ i < s.n) = q from hq.symm)
  have HF := hid (show tellS (find s.dur i) = .tuple #[.agg (ar 64 f), .bool (find s.dur i).isSome] by rw [hf]; rfl)
  clear hq hf
  go_enter Try.func41, Try.ntmps41
  go_upto_region 1 with (with_reducible apply alA tSe)
  generalize hw1 : World.alloc w _ = w1
  have b1 := hid (show Blk w1 w.heap.size 32 (ar 64 fun _ => 0) by rw [← hw1]; exact Blk.new _ _ _)
  have BEL := hid (show Below w.heap.size w w1 by rw [← hw1]; exact (Below.refl _ _).alloc (Nat.le_refl _) _)
  have H1 := hid (H.out.below BEL.out (Nat.le_refl _))
  clear hw1 H
  go_wp2_with fail
  refine (may_any g I s A1 c1 A2 c2 A3 c3 i q HQ.out w1 H1.out).mono ?_
  rintro e w' ⟨rfl, rfl⟩
  cases q with
  | false =>
    have bz := b1.out.setRow_same (ar 64 fun _ => 0)
    have bb := hid (below_setRow BEL.out (Nat.le_refl w.heap.size) (ar 64 fun _ => 0))
    go_wp2_with (first | ((with_reducible apply bldZr (n := 64)); kernel_rfl) | ((with_reducible apply stA tSe); rfl; rfl; exact b1.out))
    apply retA tSe Try.results41
    · rfl
    · rfl
    · rfl
    · exact bz
    · exact ⟨rfl, bb.out⟩
  | true =>
    have p1 : w1.cell? ⟨g, 1, none⟩ = some (.slice A1 s.dur.length c1) := H1.out.blk.cell 1
    go_wp2_with fail
    refine (find_any I A1 s.dur _ c1 i w1 H1.out.dur).mono ?_
    rintro e w2 ⟨rfl, h2⟩
    have b2 := hid (b1.out.below h2 b1.out.lt)
    have B2 := hid (BEL.out.trans (h2.mono BEL.out.size))
    have hlt := b2.out.lt
    clear b1 BEL H1 h2 p1
    rw [HF.out]
    go_upto_region 4 with (first | (with_reducible apply alA tSe) | ((with_reducible apply stA tSe); rfl; rfl; exact Blk.new _ _ _))
    generalize hw3 : World.setRow _ _ _ = w3
    have b3 := hid (show Blk w3 w2.heap.size 32 (ar 64 f) by rw [← hw3]; exact (Blk.new w2 _ _).setRow_same _)
    have h3 : Below w2.heap.size w2 w3 := by rw [← hw3]; exact below_setRow ((Below.refl _ _).alloc (Nat.le_refl _) _) (Nat.le_refl _) _
    have c3 := hid (b2.out.below h3 b2.out.lt)
    have B3 := hid (B2.out.trans (h3.mono B2.out.size))
    clear hw3 b2 B2 h3
    have c6 := c3.out.setRow_same (ar 64 f)
    have B6 := hid (below_setRow B3.out (Nat.le_refl w.heap.size) (ar 64 f))
    go_wp2_with (first | ((with_reducible apply ldA tSe); rfl; exact b3.out) | ((with_reducible apply stA tSe); rfl; rfl; exact c3.out))
    apply retA tSe Try.results41
    · rfl
    · rfl
    · rfl
    · exact c6
    · exact ⟨rfl, B6.out⟩
theorem undMb : Try.prog.underlying 85 = some (.struct (Try.prog.fieldsOf 85)) := by kernel_rfl
/-- A put as a value. -/
theorem built_at (i : Int) (x : Nat → Nat) : Try.prog.built 85 [(0, .int .i64 i), (1, .agg (ar 64 x))] = some (atL ⟨i, x⟩).toArray := by
  have := built_struct (T := 85) (N := 65) (ss := [(0, 1), (1, 64)]) (by kernel_rfl) undMb (by kernel_rfl) ⟨rfl, rfl, trivial⟩ rfl [.int .i64 i, .agg (ar 64 x)] (by simp [Value.cells, size_ar])
  rw [show (partsAt 0 [Value.int .i64 i, .agg (ar 64 x)]) = [(0, .int .i64 i), (1, .agg (ar 64 x))] from rfl] at this
  rw [this]
  unfold atL
  simp [Value.cells]
section
variable {ops : Array Oper} {Q : Exit → Act → World → Prop} {a : Act} {w : World} {rest : List Oper} {dst : Option Tmp} {ty : TypeId} {pos : String} {after : Array Edge} {o1 o2 : Operand} {i : Int} {x : Nat → Nat}
theorem bldAt (h1 : a.eval o1 = .int .i64 i) (h2 : a.eval o2 = .agg (ar 64 x)) (h : wpList Try.prog ops Q rest (a.put dst (.agg (atL ⟨i, x⟩).toArray)) w) :
    wpList Try.prog ops Q (⟨dst, .build 85 #[(0, o1), (1, o2)], ty, pos, after, none⟩ :: rest) a w := by
  have hm : (#[(0, o1), (1, o2)] : Array (Nat × Operand)).map (fun (i, x) => (i, a.eval x)) = #[(0, .int .i64 i), (1, .agg (ar 64 x))] := by
    simp only [List.map_toArray, List.map_cons, List.map_nil, h1, h2]
  have hr : (Instr.build 85 #[(0, .int .i64 i), (1, .agg (ar 64 x))]).run Try.prog w = .ok (.agg (atL ⟨i, x⟩).toArray) w := run_build w _ _ _ (built_at i x)
  refine wpList_plain rfl fun K hK => ?_
  unfold Oper.wp execOp
  simp only [Sem.run_bind, hm, hr, Result.andThen_ok, Sem.run_pure]
  exact hK _ _ h
theorem gE_at {gd : Option (Nat × Bool)} {R : Value → World → Prop} (h1 : a.eval o1 = .int .i64 i) (h2 : a.eval o2 = .agg (ar 64 x)) (h : R (.agg (atL ⟨i, x⟩).toArray) w) : GivesE Try.prog ⟨dst, .build 85 #[(0, o1), (1, o2)], ty, pos, after, gd⟩ a w R := by
  have hm : (#[(0, o1), (1, o2)] : Array (Nat × Operand)).map (fun (i, x) => (i, a.eval x)) = #[(0, .int .i64 i), (1, .agg (ar 64 x))] := by
    simp only [List.map_toArray, List.map_cons, List.map_nil, h1, h2]
  have hr : (Instr.build 85 #[(0, .int .i64 i), (1, .agg (ar 64 x))]).run Try.prog w = .ok (.agg (atL ⟨i, x⟩).toArray) w := run_build w _ _ _ (built_at i x)
  unfold GivesE execOp
  simp only [Sem.run_bind, hm, hr, Result.andThen_ok, Sem.run_pure]
  exact h
end
end MbP
end Go.Proofs.Yteglhalninlapaa
set_option maxRecDepth 100000
namespace Go.Proofs.Yteglhalninlapaa
open Go.ChangeShapes Go.WideShapes Go.ChangeAt Go.RowKit
attribute [local go_sem] Gives GivesE
theorem Sli.bound {α : Type} {k : Nat} {en : α → List Value} {S : Nat → Prop} {w : World} {A : Option Addr} {l : List α} {n cp : Nat} (h : Sli k en S w A l n cp) : Sli k en (fun b => S b ∧ b < w.heap.size) w A l n cp :=
  ⟨h.len, h.cap, h.max, h.none, fun hn => by obtain ⟨b, o, e, hS, hl, hr⟩ := h.lst hn; exact ⟨b, o, e, ⟨hS, hl⟩, hl, hr⟩⟩
namespace MbP
open MbM
section
variable {w : World} {g : Nat} {I J : Nat → Prop} {s : Ls} {A1 A2 A3 A : Option Addr} {c1 c2 c3 c B : Nat} {l : List Pt}
/-- The lists of a member whose struct is turned, over more blocks. -/
theorem Rm.more (h : Rm w g I s A1 c1 A2 c2 A3 c3) (hIJ : ∀ b, I b → J b) (hg : ¬ J g) (hJ : ∀ b, J b → b < w.heap.size) : Rm w g J s A1 c1 A2 c2 A3 c3 where
  blk := h.blk
  dur := h.dur.mono hIJ
  log := h.log.mono hIJ
  marks := by
    obtain ⟨xs, h1, h2⟩ := h.marks
    exact ⟨xs, h1.mono hIJ, fun i l hi => by obtain ⟨A, c, h3, h4⟩ := h2 i l hi; exact ⟨A, c, h3, h4.mono hIJ⟩⟩
  out := hg
  lt := hJ
def nw (I : Nat → Prop) (B : Nat) (w : World) : Nat → Prop := fun b => I b ∨ (B ≤ b ∧ b < w.heap.size)
theorem Rm.nw (h : Rm w g I s A1 c1 A2 c2 A3 c3) (hB : g < B) : Rm w g (nw I B w) s A1 c1 A2 c2 A3 c3 :=
  h.more (fun _ e => .inl e) (fun e => e.elim h.out fun e => by omega) fun b e => e.elim (h.lt b) And.right
theorem tgt {v : Value} {j : Nat} : Turn (fun b => b = g) w (w.setCell ⟨g, j, none⟩ v) := Turn.setCell (S := fun b => b = g) w ⟨g, j, none⟩ v rfl
theorem Rm.keep {v : Value} {j : Nat} {s' : Ls} {A1' A2' A3' : Option Addr} {c1' c2' c3' : Nat} (h : Rm w g I s A1 c1 A2 c2 A3 c3) (hb : (mbC s.n A1 s.dur.length c1 A2 s.log.length c2 A3 s.marks.length c3 s.fails s.hurt).setIfInBounds j v = mbC s'.n A1' s'.dur.length c1' A2' s'.log.length c2' A3' s'.marks.length c3' s'.fails s'.hurt)
    (hd : Sli 65 atL I w A1' s'.dur s'.dur.length c1') (hl : Sli 65 atL I w A2' s'.log s'.log.length c2')
    (hm : ∃ xs : List SlE, Sli 1 slE I w A3' xs s'.marks.length c3' ∧ ∀ (i : Nat) (l : List Pt), s'.marks[i]? = some l → ∃ A c, xs[i]? = some (A, l.length, c) ∧ Sli 65 atL I w A l l.length c) :
    Rm (w.setCell ⟨g, j, none⟩ v) g I s' A1' c1' A2' c2' A3' c3' := by
  have hI : ∀ b, I b → b < w.heap.size → ¬ b = g := fun b hb _ e => h.out (e ▸ hb)
  refine ⟨by rw [← hb]; exact h.blk.setCell_same j v, hd.turn tgt hI, hl.turn tgt hI, ?_, h.out, fun b hb => by simp; exact h.lt b hb⟩
  obtain ⟨xs, h1, h2⟩ := hm
  exact ⟨xs, h1.turn tgt hI, fun i l hi => by obtain ⟨A, c, h3, h4⟩ := h2 i l hi; exact ⟨A, c, h3, h4.turn tgt hI⟩⟩
theorem Rm.setLog (h : Rm w g I s A1 c1 A2 c2 A3 c3) (hl : Sli 65 atL I w A l l.length c) : Rm (w.setCell ⟨g, 2, none⟩ (.slice A l.length c)) g I { s with log := l } A1 c1 A c A3 c3 := h.keep rfl h.dur hl h.marks
theorem Rm.setDur (h : Rm w g I s A1 c1 A2 c2 A3 c3) (hl : Sli 65 atL I w A l l.length c) : Rm (w.setCell ⟨g, 1, none⟩ (.slice A l.length c)) g I { s with dur := l } A c A2 c2 A3 c3 := h.keep rfl hl h.log h.marks
theorem Rm.setFails (h : Rm w g I s A1 c1 A2 c2 A3 c3) (q : Bool) : Rm (w.setCell ⟨g, 4, none⟩ (.bool q)) g I { s with fails := q } A1 c1 A2 c2 A3 c3 := h.keep rfl h.dur h.log h.marks
theorem Rm.setHurt (h : Rm w g I s A1 c1 A2 c2 A3 c3) (q : Bool) : Rm (w.setCell ⟨g, 5, none⟩ (.bool q)) g I { s with hurt := q } A1 c1 A2 c2 A3 c3 := h.keep rfl h.dur h.log h.marks
end
/-- From the start w through new blocks to w1, then a turn of g alone. -/
theorem RMo.of {w w1 w2 : World} {g : Nat} {I : Nat → Prop} {s : Ls} (hg : g < w.heap.size) (hb : Below w.heap.size w w1) (ht : Turn (fun b => b = g) w1 w2) (h : RM w2 g (nw I w.heap.size w1) s) : RMo w g I s w2 :=
  ⟨_, h, fun b e => e.imp id And.left, (Turn.of_new (S := fun b => b = g) hb).trans ht fun k hk => .inl hk⟩
def wrL (s : Ls) (i : Int) (x : Nat → Nat) : Ls := if s.may i then (if s.fails then s else { s with log := s.log ++ [⟨i, x⟩] }) else s
set_option maxRecDepth 100000 in
theorem write_any (g : Nat) (I : Nat → Prop) (s : Ls) (i : Int) (x : Nat → Nat) (hs : s.log.length ≤ 500000) (w : World) (h : RM w g I s) :
    Calls Try.prog 33 #[.pointer (some ⟨g, 0, none⟩), .int .i64 i, .agg (ar 64 x)] w fun e w' => e = .returned (.int .i64 (readE s i)) ∧ RMo w g I (wrL s i x) w' := by
  have HR := hid h
  obtain ⟨A1, c1, A2, c2, A3, c3, h⟩ := h
  have H := hid h
  have hgl := h.blk.lt
  clear h
  obtain ⟨q, hq⟩ : ∃ q, q = s.may i := ⟨_, rfl⟩
  obtain ⟨F, hF⟩ : ∃ F, F = s.fails := ⟨_, rfl⟩
  unfold wrL readE
  rw [← hq, ← hF]
  have HQ := hid (show decide (0 ≤ i ∧ i < s.n) = q from hq.symm)
  have HF := hid hF
  have HS := hid hs
  clear hq hF hs
  go_enter Try.func33, Try.ntmps33
  go_upto_region 1 with fail
  generalize hw1 : World.alloc w _ = w1
  have b1 := hid (show Blk w1 w.heap.size 32 (ar 64 x) by rw [← hw1]; exact Blk.new _ _ _)
  have BEL := hid (show Below w.heap.size w w1 by rw [← hw1]; exact (Below.refl _ _).alloc (Nat.le_refl _) _)
  have H1 := hid (H.out.below BEL.out (Nat.le_refl _))
  clear hw1 H
  go_wp2_with fail
  refine (may_any g I s A1 c1 A2 c2 A3 c3 i q HQ.out w1 H1.out).mono ?_
  rintro e w' ⟨rfl, rfl⟩
  cases q with
  | false =>
    go_wp2_with fail
    go_ret
    exact ⟨rfl, RMo.same HR.out BEL.out⟩
  | true =>
    have p4 : w1.cell? ⟨g, 4, none⟩ = some (.bool F) := by rw [HF.out]; exact H1.out.blk.cell 4
    cases F with
    | true =>
      go_wp2_with fail
      go_ret
      exact ⟨rfl, RMo.same HR.out BEL.out⟩
    | false =>
      have p2 : w1.cell? ⟨g, 2, none⟩ = some (.slice A2 s.log.length c2) := H1.out.blk.cell 2
      go_upto_region 5 with fail
      refine wp_region_y [some (.pointer (some ⟨g, 0, none⟩)), some (.pointer (some ⟨g, 0, none⟩)), some (.pointer (some ⟨g, 0, none⟩)), some (.pointer (some ⟨g, 2, none⟩)), some (.slice A2 s.log.length c2), some (.int .i64 i), some (.agg (ar 64 x)), some (.agg (atL ⟨i, x⟩).toArray), none, none, some (.pointer (some ⟨g, 0, none⟩)), some (.pointer (some ⟨g, 2, none⟩))]
        [(8, spX 65 atL (fun _ => True) [⟨i, x⟩]), (9, spX 65 atL (fun b => w1.heap.size ≤ b) (s.log ++ [⟨i, x⟩]))] (fun y hy => by simp only [List.mem_cons, List.not_mem_nil, or_false] at hy; rcases hy with rfl | rfl <;> exact spX_ok _ _ _ _) 12 (by kernel_rfl) (by kernel_rfl) (by kernel_rfl) fun vs => ?_
      simp only [List.take_succ_cons, List.take_zero, List.drop_succ_cons, List.drop_zero]
      refine ⟨.inl ⟨rfl, fun dd w' hd hC hDs => ?_⟩, fun e => ?_⟩
      · go_simp
        first | exact ⟨rfl, hC, Below.refl _ _, trivial⟩ | exact ⟨rfl, Below.refl _ _, trivial⟩ | exact ⟨hC, Below.refl _ _, trivial⟩
      have e' : vs 0 = _ := e
      rw [e']
      clear e e'
      simp only [Act.put, List.setIfInBounds_toArray, List.set_cons_succ, List.set_cons_zero]
      refine ⟨.inl ⟨rfl, fun dd w' hd hC hDs => ?_⟩, fun e => ?_⟩
      · go_simp
        first | exact ⟨rfl, hC, Below.refl _ _, trivial⟩ | exact ⟨rfl, Below.refl _ _, trivial⟩ | exact ⟨hC, Below.refl _ _, trivial⟩
      have e' : vs 1 = _ := e
      rw [e']
      clear e e'
      simp only [Act.put, List.setIfInBounds_toArray, List.set_cons_succ, List.set_cons_zero]
      refine ⟨.inl ⟨rfl, fun dd w' hd hC hDs => ?_⟩, fun e => ?_⟩
      · go_simp
        first | exact ⟨rfl, hC, Below.refl _ _, trivial⟩ | exact ⟨rfl, Below.refl _ _, trivial⟩ | exact ⟨hC, Below.refl _ _, trivial⟩
      have e' : vs 2 = _ := e
      rw [e']
      clear e e'
      simp only [Act.put, List.setIfInBounds_toArray, List.set_cons_succ, List.set_cons_zero]
      refine ⟨.inl ⟨rfl, fun dd w' hd hC hDs => ?_⟩, fun e => ?_⟩
      · go_simp
        first | exact ⟨rfl, hC, Below.refl _ _, trivial⟩ | exact ⟨rfl, Below.refl _ _, trivial⟩ | exact ⟨hC, Below.refl _ _, trivial⟩
      have e' : vs 3 = _ := e
      rw [e']
      clear e e'
      simp only [Act.put, List.setIfInBounds_toArray, List.set_cons_succ, List.set_cons_zero]
      refine ⟨.inl ⟨rfl, fun dd w' hd hC hDs => ?_⟩, fun e => ?_⟩
      · have h1 : w'.cell? ⟨g, 2, none⟩ = some (.slice A2 s.log.length c2) := (H1.out.below hC (Nat.le_refl _)).blk.cell 2
        go_simp
        first | exact ⟨rfl, hC, Below.refl _ _, trivial⟩ | exact ⟨rfl, Below.refl _ _, trivial⟩ | exact ⟨hC, Below.refl _ _, trivial⟩
      have e' : vs 4 = _ := e
      rw [e']
      clear e e'
      simp only [Act.put, List.setIfInBounds_toArray, List.set_cons_succ, List.set_cons_zero]
      refine ⟨.inl ⟨rfl, fun dd w' hd hC hDs => ?_⟩, fun e => ?_⟩
      · go_simp
        first | exact ⟨rfl, hC, Below.refl _ _, trivial⟩ | exact ⟨rfl, Below.refl _ _, trivial⟩ | exact ⟨hC, Below.refl _ _, trivial⟩
      have e' : vs 5 = _ := e
      rw [e']
      clear e e'
      simp only [Act.put, List.setIfInBounds_toArray, List.set_cons_succ, List.set_cons_zero]
      refine ⟨.inl ⟨rfl, fun dd w' hd hC hDs => ?_⟩, fun e => ?_⟩
      · exact gE_ldA tSe rfl (b1.out.below hC b1.out.lt).head ⟨rfl, hC, Below.refl _ _, trivial⟩
      have e' : vs 6 = _ := e
      rw [e']
      clear e e'
      simp only [Act.put, List.setIfInBounds_toArray, List.set_cons_succ, List.set_cons_zero]
      refine ⟨.inl ⟨rfl, fun dd w' hd hC hDs => ?_⟩, fun e => ?_⟩
      · exact gE_at rfl rfl ⟨rfl, hC, Below.refl _ _, trivial⟩
      have e' : vs 7 = _ := e
      rw [e']
      clear e e'
      simp only [Act.put, List.setIfInBounds_toArray, List.set_cons_succ, List.set_cons_zero]
      refine ⟨.inl ⟨rfl, fun dd w' hd hC hDs => ?_⟩, fun e => ?_⟩
      · have ha := (Below.refl w'.heap.size w').alloc (Nat.le_refl _) (.cells (atL ⟨i, x⟩).toArray 85)
        exact gE_lit1 (x := (⟨i, x⟩ : Pt)) eltAt undAt (by omega) rfl rfl ⟨⟨_, _, rfl⟩, hC.trans (ha.mono hC.size), ha, yD_some rfl ⟨_, _, rfl, sli_lit1 eltAt (⟨i, x⟩ : Pt) w' trivial⟩⟩
      obtain ⟨A8, c8, e'⟩ : ∃ (A : Option Addr) (c : Nat), vs 8 = .slice A 1 c := e
      rw [e']
      have E8 := hid e'
      clear e'
      simp only [Act.put, List.setIfInBounds_toArray, List.set_cons_succ, List.set_cons_zero]
      refine ⟨.inl ⟨rfl, fun dd w' hd hC hDs => ?_⟩, fun e => ?_⟩
      · obtain ⟨A', c', f, sl⟩ := hDs 8 (by kernel_rfl)
        rw [E8.out] at f
        cases f
        go_simp
        refine (joined_any I (fun _ => True) A2 A8 s.log [⟨i, x⟩] _ 1 c2 c8 (by have := HS.out; omega) w' (H1.out.below hC (Nat.le_refl _)).log sl).mono ?_
        rintro e w3 ⟨v, rfl, o3, h3⟩
        obtain ⟨A, c, rfl, s3⟩ := o3.sli atL_len
        exact ⟨_, rfl, ⟨A, c, rfl⟩, hC.trans (h3.mono hC.size), h3, yD_some rfl ⟨A, c, rfl, s3.mono fun b hb => Nat.le_trans hC.size hb⟩⟩
      obtain ⟨A9, c9, e'⟩ : ∃ (A : Option Addr) (c : Nat), vs 9 = .slice A (s.log ++ [(⟨i, x⟩ : Pt)]).length c := e
      rw [e']
      have E9 := hid e'
      clear e'
      simp only [Act.put, List.setIfInBounds_toArray, List.set_cons_succ, List.set_cons_zero]
      refine ⟨.inl ⟨rfl, fun dd w' hd hC hDs => ?_⟩, fun e => ?_⟩
      · go_simp
        first | exact ⟨rfl, hC, Below.refl _ _, trivial⟩ | exact ⟨rfl, Below.refl _ _, trivial⟩ | exact ⟨hC, Below.refl _ _, trivial⟩
      have e' : vs 10 = _ := e
      rw [e']
      clear e e'
      simp only [Act.put, List.setIfInBounds_toArray, List.set_cons_succ, List.set_cons_zero]
      refine ⟨.inl ⟨rfl, fun dd w' hd hC hDs => ?_⟩, fun e => ?_⟩
      · go_simp
        first | exact ⟨rfl, hC, Below.refl _ _, trivial⟩ | exact ⟨rfl, Below.refl _ _, trivial⟩ | exact ⟨hC, Below.refl _ _, trivial⟩
      have e' : vs 11 = _ := e
      rw [e']
      clear e e'
      simp only [Act.put, List.setIfInBounds_toArray, List.set_cons_succ, List.set_cons_zero]
      intro dd w3 hall hC3 hDs
      obtain ⟨A', c', f, sl⟩ := hDs 9 (by omega)
      rw [E9.out] at f
      cases f
      have B3 := hid (BEL.out.trans (hC3.mono BEL.out.size))
      have H3 := H1.out.below hC3 (Nat.le_refl _)
      have SL := hid ((sl.mono (T := fun b => w.heap.size ≤ b) fun b hb => Nat.le_trans BEL.out.size hb).bound.mono (T := nw I w.heap.size w3) fun b hb => .inr hb)
      have p3 : w3.cell? ⟨g, 2, none⟩ = some (.slice A2 s.log.length c2) := H3.blk.cell 2
      have fz := H3.blk.frozen 2
      have H4 := hid (H3.nw (B := w.heap.size) hgl)
      clear b1 BEL H1 p4 p2 hall hC3 hDs sl H3 E8 E9
      go_wp2_with fail
      go_ret
      have hfin := H4.out.setLog SL.out
      simp only [List.length_append, List.length_cons, List.length_nil, Nat.zero_add] at hfin
      rw [← HF.out] at hfin
      exact ⟨rfl, RMo.of hgl B3.out tgt ⟨_, _, _, _, _, _, hfin⟩⟩
end MbP
end Go.Proofs.Yteglhalninlapaa
set_option maxRecDepth 100000
namespace Go.Proofs.Yteglhalninlapaa
open Go.ChangeShapes Go.WideShapes Go.ChangeAt Go.RowKit
attribute [local go_sem] Gives GivesE
namespace MbP
open MbM
theorem tgt2 {w : World} {g : Nat} {u v : Value} {i j : Nat} : Turn (fun b => b = g) w ((w.setCell ⟨g, i, none⟩ u).setCell ⟨g, j, none⟩ v) := tgt.trans tgt fun _ h => .inl h
def flE (s : Ls) : Int := if s.fails then 10 else 0
def flL (s : Ls) : Ls := if s.fails then s else { s with dur := s.dur ++ s.log, log := [] }
set_option maxRecDepth 100000 in
theorem flush_any (g : Nat) (I : Nat → Prop) (s : Ls) (hs : s.dur.length + s.log.length ≤ 500000) (w : World) (h : RM w g I s) :
    Calls Try.prog 34 #[.pointer (some ⟨g, 0, none⟩)] w fun e w' => e = .returned (.int .i64 (flE s)) ∧ RMo w g I (flL s) w' := by
  have HR := hid h
  obtain ⟨A1, c1, A2, c2, A3, c3, h⟩ := h
  have H1 := hid h
  have hgl := h.blk.lt
  clear h
  obtain ⟨F, hF⟩ : ∃ F, F = s.fails := ⟨_, rfl⟩
  unfold flL flE
  rw [← hF]
  have HF := hid hF
  have HS := hid hs
  clear hF hs
  have p4 : w.cell? ⟨g, 4, none⟩ = some (.bool F) := by rw [HF.out]; exact H1.out.blk.cell 4
  go_enter Try.func34, Try.ntmps34
  cases F with
  | true =>
    go_wp2_with fail
    go_ret
    exact ⟨rfl, RMo.same HR.out (Below.refl _ _)⟩
  | false =>
    go_upto_region 3 with fail
    clear p4
    refine wp_region_y [some (.pointer (some ⟨g, 0, none⟩)), some (.pointer (some ⟨g, 0, none⟩)), some (.pointer (some ⟨g, 0, none⟩)), some (.pointer (some ⟨g, 1, none⟩)), some (.slice A1 s.dur.length c1), some (.pointer (some ⟨g, 0, none⟩)), some (.pointer (some ⟨g, 0, none⟩)), some (.pointer (some ⟨g, 2, none⟩)), some (.slice A2 s.log.length c2), none, some (.pointer (some ⟨g, 0, none⟩)), some (.pointer (some ⟨g, 1, none⟩))]
      [(9, spX 65 atL (fun b => w.heap.size ≤ b) (s.dur ++ s.log))] (fun y hy => by simp only [List.mem_cons, List.not_mem_nil, or_false] at hy; subst hy; exact spX_ok _ _ _ _) 12 (by kernel_rfl) (by kernel_rfl) (by kernel_rfl) fun vs => ?_
    simp only [List.take_succ_cons, List.take_zero, List.drop_succ_cons, List.drop_zero]
    refine ⟨.inl ⟨rfl, fun dd w' hd hC hDs => ?_⟩, fun e => ?_⟩
    · go_simp
      first | exact ⟨rfl, hC, Below.refl _ _, trivial⟩ | exact ⟨rfl, Below.refl _ _, trivial⟩ | exact ⟨hC, Below.refl _ _, trivial⟩
    have e' : vs 0 = _ := e
    rw [e']
    clear e e'
    simp only [Act.put, List.setIfInBounds_toArray, List.set_cons_succ, List.set_cons_zero]
    refine ⟨.inl ⟨rfl, fun dd w' hd hC hDs => ?_⟩, fun e => ?_⟩
    · go_simp
      first | exact ⟨rfl, hC, Below.refl _ _, trivial⟩ | exact ⟨rfl, Below.refl _ _, trivial⟩ | exact ⟨hC, Below.refl _ _, trivial⟩
    have e' : vs 1 = _ := e
    rw [e']
    clear e e'
    simp only [Act.put, List.setIfInBounds_toArray, List.set_cons_succ, List.set_cons_zero]
    refine ⟨.inl ⟨rfl, fun dd w' hd hC hDs => ?_⟩, fun e => ?_⟩
    · go_simp
      first | exact ⟨rfl, hC, Below.refl _ _, trivial⟩ | exact ⟨rfl, Below.refl _ _, trivial⟩ | exact ⟨hC, Below.refl _ _, trivial⟩
    have e' : vs 2 = _ := e
    rw [e']
    clear e e'
    simp only [Act.put, List.setIfInBounds_toArray, List.set_cons_succ, List.set_cons_zero]
    refine ⟨.inl ⟨rfl, fun dd w' hd hC hDs => ?_⟩, fun e => ?_⟩
    · go_simp
      first | exact ⟨rfl, hC, Below.refl _ _, trivial⟩ | exact ⟨rfl, Below.refl _ _, trivial⟩ | exact ⟨hC, Below.refl _ _, trivial⟩
    have e' : vs 3 = _ := e
    rw [e']
    clear e e'
    simp only [Act.put, List.setIfInBounds_toArray, List.set_cons_succ, List.set_cons_zero]
    refine ⟨.inl ⟨rfl, fun dd w' hd hC hDs => ?_⟩, fun e => ?_⟩
    · have h1 : w'.cell? ⟨g, 1, none⟩ = some (.slice A1 s.dur.length c1) := (H1.out.below hC (Nat.le_refl _)).blk.cell 1
      go_simp
      first | exact ⟨rfl, hC, Below.refl _ _, trivial⟩ | exact ⟨rfl, Below.refl _ _, trivial⟩ | exact ⟨hC, Below.refl _ _, trivial⟩
    have e' : vs 4 = _ := e
    rw [e']
    clear e e'
    simp only [Act.put, List.setIfInBounds_toArray, List.set_cons_succ, List.set_cons_zero]
    refine ⟨.inl ⟨rfl, fun dd w' hd hC hDs => ?_⟩, fun e => ?_⟩
    · go_simp
      first | exact ⟨rfl, hC, Below.refl _ _, trivial⟩ | exact ⟨rfl, Below.refl _ _, trivial⟩ | exact ⟨hC, Below.refl _ _, trivial⟩
    have e' : vs 5 = _ := e
    rw [e']
    clear e e'
    simp only [Act.put, List.setIfInBounds_toArray, List.set_cons_succ, List.set_cons_zero]
    refine ⟨.inl ⟨rfl, fun dd w' hd hC hDs => ?_⟩, fun e => ?_⟩
    · go_simp
      first | exact ⟨rfl, hC, Below.refl _ _, trivial⟩ | exact ⟨rfl, Below.refl _ _, trivial⟩ | exact ⟨hC, Below.refl _ _, trivial⟩
    have e' : vs 6 = _ := e
    rw [e']
    clear e e'
    simp only [Act.put, List.setIfInBounds_toArray, List.set_cons_succ, List.set_cons_zero]
    refine ⟨.inl ⟨rfl, fun dd w' hd hC hDs => ?_⟩, fun e => ?_⟩
    · go_simp
      first | exact ⟨rfl, hC, Below.refl _ _, trivial⟩ | exact ⟨rfl, Below.refl _ _, trivial⟩ | exact ⟨hC, Below.refl _ _, trivial⟩
    have e' : vs 7 = _ := e
    rw [e']
    clear e e'
    simp only [Act.put, List.setIfInBounds_toArray, List.set_cons_succ, List.set_cons_zero]
    refine ⟨.inl ⟨rfl, fun dd w' hd hC hDs => ?_⟩, fun e => ?_⟩
    · have h1 : w'.cell? ⟨g, 2, none⟩ = some (.slice A2 s.log.length c2) := (H1.out.below hC (Nat.le_refl _)).blk.cell 2
      go_simp
      first | exact ⟨rfl, hC, Below.refl _ _, trivial⟩ | exact ⟨rfl, Below.refl _ _, trivial⟩ | exact ⟨hC, Below.refl _ _, trivial⟩
    have e' : vs 8 = _ := e
    rw [e']
    clear e e'
    simp only [Act.put, List.setIfInBounds_toArray, List.set_cons_succ, List.set_cons_zero]
    refine ⟨.inl ⟨rfl, fun dd w' hd hC hDs => ?_⟩, fun e => ?_⟩
    · go_simp
      have hw := H1.out.below hC (Nat.le_refl _)
      refine (joined_any I I A1 A2 s.dur s.log _ _ c1 c2 (by have := HS.out; omega) w' hw.dur hw.log).mono ?_
      rintro e w3 ⟨v, rfl, o3, h3⟩
      obtain ⟨A, c, rfl, s3⟩ := o3.sli atL_len
      exact ⟨_, rfl, ⟨A, c, rfl⟩, hC.trans (h3.mono hC.size), h3, yD_some rfl ⟨A, c, rfl, s3.mono fun b hb => Nat.le_trans hC.size hb⟩⟩
    obtain ⟨A9, c9, e'⟩ : ∃ (A : Option Addr) (c : Nat), vs 9 = .slice A (s.dur ++ s.log).length c := e
    rw [e']
    have E9 := hid e'
    clear e'
    simp only [Act.put, List.setIfInBounds_toArray, List.set_cons_succ, List.set_cons_zero]
    refine ⟨.inl ⟨rfl, fun dd w' hd hC hDs => ?_⟩, fun e => ?_⟩
    · go_simp
      first | exact ⟨rfl, hC, Below.refl _ _, trivial⟩ | exact ⟨rfl, Below.refl _ _, trivial⟩ | exact ⟨hC, Below.refl _ _, trivial⟩
    have e' : vs 10 = _ := e
    rw [e']
    clear e e'
    simp only [Act.put, List.setIfInBounds_toArray, List.set_cons_succ, List.set_cons_zero]
    refine ⟨.inl ⟨rfl, fun dd w' hd hC hDs => ?_⟩, fun e => ?_⟩
    · go_simp
      first | exact ⟨rfl, hC, Below.refl _ _, trivial⟩ | exact ⟨rfl, Below.refl _ _, trivial⟩ | exact ⟨hC, Below.refl _ _, trivial⟩
    have e' : vs 11 = _ := e
    rw [e']
    clear e e'
    simp only [Act.put, List.setIfInBounds_toArray, List.set_cons_succ, List.set_cons_zero]
    intro dd w3 hall hC3 hDs
    obtain ⟨A', c', f, sl⟩ := hDs 9 (by omega)
    rw [E9.out] at f
    cases f
    have B3 := hid hC3
    have H3 := H1.out.below hC3 (Nat.le_refl _)
    have SL := hid (sl.bound.mono (T := nw I w.heap.size w3) fun b hb => .inr hb)
    have p3 : w3.cell? ⟨g, 1, none⟩ = some (.slice A1 s.dur.length c1) := H3.blk.cell 1
    have fz := H3.blk.frozen 1
    have H4 := hid (H3.nw (B := w.heap.size) hgl)
    clear H1 hall hC3 hDs sl H3 E9
    go_upto_region 4 with fail
    have H5 := H4.out.setDur SL.out
    have T5 := hid (tgt (w := w3) (g := g) (j := 1) (v := .slice A9 (s.dur ++ s.log).length c9))
    simp only [List.length_append] at H5 T5
    generalize w3.setCell ⟨g, 1, none⟩ _ = w5 at H5 T5 ⊢
    have HZ := hid H5
    have p6 : w5.cell? ⟨g, 2, none⟩ = some (.slice A2 s.log.length c2) := H5.blk.cell 2
    have f6 := H5.blk.frozen 2
    clear H5 p3 fz
    go_wp2_with fail
    go_ret
    have hfin := HZ.out.setLog (l := []) (Sli.nil _ _ _ _)
    simp only [List.length_append, List.length_nil] at hfin
    rw [← HF.out] at hfin
    exact ⟨rfl, RMo.of hgl B3.out (T5.out.trans tgt fun _ h => .inl h) ⟨_, _, _, _, _, _, hfin⟩⟩
def failL (s : Ls) (q : Bool) : Ls := { s with fails := q, hurt := s.hurt || q }
theorem fail_any (g : Nat) (I : Nat → Prop) (s : Ls) (q : Bool) (w : World) (h : RM w g I s) :
    Calls Try.prog 39 #[.pointer (some ⟨g, 0, none⟩), .bool q] w fun e w' => e = .returned (.tuple #[]) ∧ RMo w g I (failL s q) w' := by
  obtain ⟨A1, c1, A2, c2, A3, c3, h⟩ := h
  have hgl := h.blk.lt
  have p4 : w.cell? ⟨g, 4, none⟩ = some (.bool s.fails) := h.blk.cell 4
  have f4 := h.blk.frozen 4
  have H0 := hid (h.nw (B := w.heap.size) hgl)
  clear h
  go_enter Try.func39, Try.ntmps39
  go_upto_region 1 with fail
  have H5 := H0.out.setFails q
  have T5 := hid (tgt (w := w) (g := g) (j := 4) (v := .bool q))
  generalize w.setCell ⟨g, 4, none⟩ (.bool q) = w5 at H5 T5 ⊢
  have HZ := hid H5
  have p5 : w5.cell? ⟨g, 5, none⟩ = some (.bool s.hurt) := H5.blk.cell 5
  have f5 := H5.blk.frozen 5
  clear H5 p4 f4 H0
  cases q with
  | true =>
    go_wp2_with fail
    refine bodyPost_end (results_none rfl _ _ _) rfl ?_
    have hfin := HZ.out.setHurt true
    exact ⟨rfl, RMo.of hgl (Below.refl _ _) (T5.out.trans tgt fun _ h => .inl h) ⟨_, _, _, _, _, _, by unfold failL; rw [Bool.or_true]; exact hfin⟩⟩
  | false =>
    go_wp2_with fail
    refine bodyPost_end (results_none rfl _ _ _) rfl ?_
    exact ⟨rfl, RMo.of hgl (Below.refl _ _) T5.out ⟨_, _, _, _, _, _, by unfold failL; rw [Bool.or_false]; exact HZ.out⟩⟩
def backE (s : Ls) (n : Int) : Int := if n < 0 ∨ (s.marks.length : Int) ≤ n then 2 else 0
def backL (s : Ls) (n : Int) : Ls := if n < 0 ∨ (s.marks.length : Int) ≤ n then s else { s with dur := s.marks.getD n.toNat [], log := [], hurt := true }
theorem back_any (g : Nat) (I : Nat → Prop) (s : Ls) (n : Int) (w : World) (h : RM w g I s) :
    Calls Try.prog 38 #[.pointer (some ⟨g, 0, none⟩), .int .i64 n] w fun e w' => e = .returned (.int .i64 (backE s n)) ∧ RMo w g I (backL s n) w' := by
  have HR := hid h
  obtain ⟨A1, c1, A2, c2, A3, c3, h⟩ := h
  have hgl := h.blk.lt
  have p3 : w.cell? ⟨g, 3, none⟩ = some (.slice A3 s.marks.length c3) := h.blk.cell 3
  have H := hid h
  clear h
  unfold backE backL
  by_cases h0 : n < 0
  · rw [if_pos (.inl h0), if_pos (.inl h0)]
    have t1 : decide (n < 0) = true := by simp; omega
    clear h0 p3
    go_enter Try.func38, Try.ntmps38
    go_wp2_with fail
    go_ret
    exact ⟨rfl, RMo.same HR.out (Below.refl _ _)⟩
  · by_cases h1 : (s.marks.length : Int) ≤ n
    · rw [if_pos (.inr h1), if_pos (.inr h1)]
      have t1 : decide (n < 0) = false := by simp; omega
      have t2 : decide ((s.marks.length : Int) ≤ n) = true := by simp; omega
      clear h0 h1
      go_enter Try.func38, Try.ntmps38
      go_wp2_with fail
      go_ret
      exact ⟨rfl, RMo.same HR.out (Below.refl _ _)⟩
    · rw [if_neg (by omega), if_neg (by omega)]
      obtain ⟨k, rfl⟩ : ∃ k : Nat, n = k := ⟨n.toNat, by omega⟩
      have hk : k < s.marks.length := by omega
      obtain ⟨l, hl⟩ : ∃ l, s.marks[k]? = some l := ⟨_, List.getElem?_eq_getElem hk⟩
      obtain ⟨xs, hx, hm⟩ := H.out.marks
      obtain ⟨A, c, hxk, sl⟩ := hm k l hl
      obtain ⟨b, o, rfl, hIb, hbl, hr⟩ := hx.some hxk
      have pm : w.cell? ⟨b, o + k, none⟩ = some (.slice A l.length c) := by have := hr 0 (.slice A l.length c) rfl; rwa [Nat.mul_one, Nat.add_zero] at this
      have t1 : decide ((k : Int) < 0) = false := by simp
      have t2 : decide ((s.marks.length : Int) ≤ (k : Int)) = false := by simp; omega
      have t3 : (k : Int) < (s.marks.length : Int) := by omega
      have hgd : s.marks.getD (k : Int).toNat [] = l := by rw [Int.toNat_natCast, List.getD_eq_getElem?_getD, hl]; rfl
      rw [hgd]
      have SL := hid (sl.mono (T := nw I w.heap.size w) fun b hb => .inl hb)
      have q1 : w.cell? ⟨g, 1, none⟩ = some (.slice A1 s.dur.length c1) := H.out.blk.cell 1
      have fz := H.out.blk.frozen 1
      have H4 := hid (H.out.nw (B := w.heap.size) hgl)
      clear h0 h1 hk hl hx hm hxk sl hIb hbl hr hgd H
      go_enter Try.func38, Try.ntmps38
      go_upto_region 4 with fail
      have H5 := H4.out.setDur SL.out
      have T5 := hid (tgt (w := w) (g := g) (j := 1) (v := .slice A l.length c))
      generalize w.setCell ⟨g, 1, none⟩ _ = w5 at H5 T5 ⊢
      have HZ := hid H5
      have p6 : w5.cell? ⟨g, 2, none⟩ = some (.slice A2 s.log.length c2) := H5.blk.cell 2
      have f6 := H5.blk.frozen 2
      clear H5 q1 fz pm p3 H4
      go_upto_region 5 with fail
      have H6 := HZ.out.setLog (l := []) (Sli.nil _ _ _ _)
      have T6 := hid (T5.out.trans (tgt (w := w5) (g := g) (j := 2) (v := .slice none 0 0)) fun _ h => .inl h)
      simp only [List.length_nil] at H6
      generalize w5.setCell ⟨g, 2, none⟩ _ = w6 at H6 T6 ⊢
      have HY := hid H6
      have p7 : w6.cell? ⟨g, 5, none⟩ = some (.bool s.hurt) := H6.blk.cell 5
      have f7 := H6.blk.frozen 5
      clear H6 p6 f6 HZ T5
      go_wp2_with fail
      go_ret
      exact ⟨rfl, RMo.of hgl (Below.refl _ _) (T6.out.trans tgt fun _ h => .inl h) ⟨_, _, _, _, _, _, HY.out.setHurt true⟩⟩
end MbP
end Go.Proofs.Yteglhalninlapaa
set_option maxRecDepth 100000
namespace Go.Proofs.Yteglhalninlapaa
open Go.RowKit
section
variable {P : Program} {ops : Array Oper}
theorem wp_region_new1 {id : Nat} {Q : Exit → Act → World → Prop} {C : World → Prop} {a : Act} {w : World} {l : List Oper} (n : Nat) (T : TypeId) (z : Array Value) (d1 : Tmp) {t1 : TypeId} {p1 : String} {e1 : Array Edge}
    (hl1 : l[n]? = some ⟨some d1, .alloc T, t1, p1, e1, none⟩)
    (hm : P.follows .mixedOrders = true) (ht : tidy l.toArray = true) (hB : tailB l.toArray (n + 1) = true)
    (ha : ∀ w, (Instr.alloc T true (.tuple #[])).run P w = .ok (.pointer (some ⟨w.heap.size, 0, none⟩)) (w.alloc (.cells z T)))
    (hC : C w.drew) (hCa : ∀ w, C w → C (w.alloc (.cells z T))) (hCs : ∀ w', C w' → w.heap.size ≤ w'.heap.size)
    (h : wpB P l.toArray C (fun a' => ∀ b1 w', C w' → Blk w' b1 T z → w.heap.size ≤ b1 →
      wpList P l.toArray Q (l.drop (n + 1)) (a'.put (some d1) (ptr b1)) w') (l.take n) a) : (Code.region id l.toArray true).wp P Q a w := by
  obtain ⟨vals, hq, hs⟩ := wpB_vals _ _ h
  have hln : n < l.length := (List.getElem?_eq_some_iff.1 hl1).1
  have hlen : (l.take n).length = n := by rw [List.length_take]; omega
  let V : Nat → Nat → Value := fun γ i => if i = n then ptr γ else vals i
  have hV : ∀ γ i, i < n → V γ i = vals i := fun γ i hi => by show (if _ then _ else _) = _; rw [if_neg (by omega)]
  have hfr : ∀ γ i, i ≤ n → lexF (l.take (n + 1)) (V γ) i a = lexF (l.take n) vals i a := fun γ i hi => lexF_congr fun j hj =>
    ⟨by rw [List.getElem?_take_of_lt (by omega), List.getElem?_take_of_lt (by omega)], hV γ j (by omega)⟩
  refine region_core (Γ := Nat) (C := fun γ L w' => C w' ∧ (L.getD n false = true → Blk w' γ T z ∧ w.heap.size ≤ γ)) (n + 1) hm ht hB 0
    ⟨hC, (fun h => by rw [getD_replicate_false] at h; cases h)⟩ V ?_ ?_
  · intro i o hi γ L w' hsz hr ⟨hC', g1⟩
    have hilt : i < n + 1 := by
      have := (List.getElem?_eq_some_iff.1 hi).1
      rw [List.length_take] at this; omega
    rw [List.getElem?_take_of_lt hilt] at hi
    have hun := getD_both (mem_ready.1 hr).1
    rcases Nat.lt_or_ge i n with hin | hin
    · have hset : ∀ k, k ≠ i → (L.setIfInBounds i true).getD k false = L.getD k false := fun k hk => getD_set_ne false (Ne.symm hk)
      refine ⟨γ, fun _ _ => rfl, ?_⟩
      rw [hfr γ i (by omega), hV γ i hin]
      simp only [hset n (by omega)]
      rcases hs i o (by rw [List.getElem?_take_of_lt hin]; exact hi) with ⟨h1, h2⟩ | ⟨h1, h2⟩
      · exact .inl ⟨h1, gives_mono (h2 w' hC') fun w'' ⟨h3, h4⟩ => ⟨h3, fun e => ⟨(g1 e).1.below h4 (g1 e).1.lt, (g1 e).2⟩⟩⟩
      · exact .inr ⟨h1, h2, hC', g1⟩
    · obtain rfl : i = n := by omega
      obtain rfl : _ = o := Option.some.inj (hl1.symm.trans hi)
      have hw : ∀ b : Act, (execOp b.eval ⟨some d1, .alloc T, t1, p1, e1, none⟩).run P w' = .ok (.value (.pointer (some ⟨w'.heap.size, 0, none⟩))) (w'.alloc (.cells z T)) := fun b => by
        simp only [execOp, Sem.run_bind, ha w', Result.andThen_ok, Sem.run_pure]
      refine ⟨w'.heap.size, fun j hj => ?_, .inl ⟨rfl, ?_⟩⟩
      · have hjn : j ≠ i := fun e => by subst e; rw [hun] at hj; cases hj
        simp only [V, if_neg hjn]
      · refine gives_value (w' := w'.alloc (.cells z T)) ?_ ?_
        · rw [hw]
          simp only [V, if_pos]; rfl
        · exact ⟨hCa _ hC', fun _ => ⟨Blk.new _ _ _, hCs _ hC'⟩⟩
  · intro γ L w' hall ⟨hC', g1⟩
    have h1 := hall n (by omega)
    have hl2' : (l.take (n + 1)).length = n + 1 := by rw [List.length_take]; omega
    rw [hl2']
    have hput : lexF (l.take (n + 1)) (V γ) (n + 1) a = (lexF (l.take n) vals n a).put (some d1) (ptr γ) := by
      rw [lexF, hfr γ n (Nat.le_refl n), List.getElem?_take_of_lt (by omega), hl1]
      simp only [V, if_pos, Option.bind_some]
    rw [hput]
    rw [hlen] at hq
    exact hq γ w' hC' (g1 h1).1 (g1 h1).2
end
end Go.Proofs.Yteglhalninlapaa
set_option maxRecDepth 100000
namespace Go.Proofs.Yteglhalninlapaa
open Go.ChangeShapes Go.WideShapes Go.ChangeAt Go.RowKit
section
variable {ops : Array Oper} {a : Act} {rest : List Oper} {dst : Option Tmp} {ty : TypeId} {pos : String} {after : Array Edge} {x : Operand} {g o n : Nat} {f : Nat → Nat} {T : TypeId} {C : World → Prop} {Qk : Act → Prop} {gd : Option (Nat × Bool)}
theorem bldA (hT : ArT T n) (hwt : Region.wanted ⟨dst, .load T x, ty, pos, after, gd⟩ (yielded ops a.tmps) = true) (hx : a.eval x = .pointer (some ⟨g, o, none⟩)) (hb : ∀ w, C w → w.rangeAt g o (ar n f).toList) (h : wpB Try.prog ops C Qk rest (a.put dst (.agg (ar n f)))) :
    wpB Try.prog ops C Qk (⟨dst, .load T x, ty, pos, after, gd⟩ :: rest) a :=
  wpB_val hwt (fun w hw => gives_value (w' := w) (by simp only [execOp, hx, Sem.run_bind, run_ldm hT (hb w hw), Result.andThen_ok, Sem.run_pure]) ⟨hw, Below.refl _ _⟩) h
end
end Go.Proofs.Yteglhalninlapaa
set_option maxRecDepth 100000
namespace Go.Proofs.Yteglhalninlapaa
open Go.ChangeShapes Go.WideShapes Go.ChangeAt Go.RowKit
attribute [local go_sem] Gives
/-- A type of n cells, one behind the other. -/
structure RowT (T : TypeId) (n : Nat) : Prop where
  size : (Try.prog.info? T).map (·.size) = some n
  desc : ∃ d, Try.prog.underlying T = some d ∧ d.isRow = true
section
variable {ops : Array Oper} {Q : Exit → Act → World → Prop} {a : Act} {w : World} {rest : List Oper} {dst : Option Tmp} {ty : TypeId} {pos : String} {after : Array Edge} {x y : Operand} {g o n : Nat} {cs : Array Value} {T : TypeId} {C : World → Prop} {Qk : Act → Prop} {gd : Option (Nat × Bool)}
theorem run_ldR (hT : RowT T cs.size) (hb : w.rangeAt g o cs.toList) : (Instr.loadAt T (.pointer (some ⟨g, o, none⟩))).run Try.prog w = .ok (.agg cs) w := by
  obtain ⟨d, h1, h2⟩ := hT.desc
  have := run_loadAt_mid (P := Try.prog) w g o T cs.toList _ hb h1 h2 (hT.size.trans (by rw [Array.length_toList]))
  rwa [Array.toArray_toList] at this
theorem Blk.whole {t : TypeId} (h : Blk w g t cs) : w.rangeAt g 0 cs.toList := fun j v hj => by
  rw [Nat.zero_add, h.cell]; rwa [Array.getElem?_toList] at hj
theorem ldR (hT : RowT T cs.size) (hx : a.eval x = .pointer (some ⟨g, o, none⟩)) (hb : w.rangeAt g o cs.toList) (h : wpList Try.prog ops Q rest (a.put dst (.agg cs)) w) :
    wpList Try.prog ops Q (⟨dst, .load T x, ty, pos, after, none⟩ :: rest) a w := by
  obtain ⟨d, h1, h2⟩ := hT.desc
  exact step_load_mid hb h1 h2 (hT.size.trans (by rw [Array.length_toList])) hx (by rw [Array.toArray_toList]; exact h)
theorem stR {t : TypeId} {old : Array Value} (hT : RowT T cs.size) (hx : a.eval x = .pointer (some ⟨g, 0, none⟩)) (hy : a.eval y = .agg cs) (hb : Blk w g t old) (hs : old.size = cs.size) (h1 : cs.all (·.oneCell') = true) (h : wpList Try.prog ops Q rest (a.put dst undef) (w.setRow g cs)) :
    wpList Try.prog ops Q (⟨dst, .store T x y, ty, pos, after, none⟩ :: rest) a w :=
  step_store_row hb hT.size hs h1 hx hy h
theorem kldR (hT : RowT T cs.size) (hwt : Region.wanted ⟨dst, .load T x, ty, pos, after, gd⟩ (yielded ops a.tmps) = true) (hx : a.eval x = .pointer (some ⟨g, o, none⟩)) (hb : ∀ w, C w → w.rangeAt g o cs.toList) (h : wpK Try.prog ops C Qk rest (a.put dst (.agg cs))) :
    wpK Try.prog ops C Qk (⟨dst, .load T x, ty, pos, after, gd⟩ :: rest) a :=
  wpK_val hwt (fun w hw => gives_value (w' := w) (by simp only [execOp, hx, Sem.run_bind, run_ldR hT (hb w hw), Result.andThen_ok, Sem.run_pure]) hw) h
theorem bldR (hT : RowT T cs.size) (hwt : Region.wanted ⟨dst, .load T x, ty, pos, after, gd⟩ (yielded ops a.tmps) = true) (hx : a.eval x = .pointer (some ⟨g, o, none⟩)) (hb : ∀ w, C w → w.rangeAt g o cs.toList) (h : wpB Try.prog ops C Qk rest (a.put dst (.agg cs))) :
    wpB Try.prog ops C Qk (⟨dst, .load T x, ty, pos, after, gd⟩ :: rest) a :=
  wpB_val hwt (fun w hw => gives_value (w' := w) (by simp only [execOp, hx, Sem.run_bind, run_ldR hT (hb w hw), Result.andThen_ok, Sem.run_pure]) ⟨hw, Below.refl _ _⟩) h
end
end Go.Proofs.Yteglhalninlapaa
set_option maxRecDepth 100000
namespace Go.Proofs.Yteglhalninlapaa
open Go.ChangeShapes Go.WideShapes Go.ChangeAt Go.RowKit
attribute [local go_sem] Gives GivesE
namespace MbP
open MbM
def Ls.made (n : Int) : Ls := ⟨n, [], [], [], false, false⟩
theorem made_any (n : Int) (w : World) :
    Calls Try.prog 11 #[.int .i64 n] w fun e w' => e = .returned (.pointer (some ⟨w.heap.size, 0, none⟩)) ∧ RM w' w.heap.size (fun _ => False) (Ls.made n) ∧ Below w.heap.size w w' := by
  go_enter Try.func11, Try.ntmps11
  go_wp2_with fail
  go_ret
  exact ⟨rfl, ⟨.none, 0, .none, 0, .none, 0, ⟨Blk.new _ _ _, Sli.nil _ _ _ _, Sli.nil _ _ _ _, ⟨[], Sli.nil _ _ _ _, fun i l hi => by simp [Ls.made] at hi⟩, id, fun b hb => hb.elim⟩⟩, (Below.refl _ _).alloc (Nat.le_refl _) _⟩
theorem tMb : RowT 65 6 := ⟨by kernel_rfl, _, Try.underlying65, rfl⟩
theorem copy_any (g : Nat) (I : Nat → Prop) (s : Ls) (w : World) (h : RM w g I s) :
    Calls Try.prog 15 #[.pointer (some ⟨g, 0, none⟩)] w fun e w' => e = .returned (.pointer (some ⟨w.heap.size, 0, none⟩)) ∧ RM w' w.heap.size I s ∧ RM w' g I s ∧ Below w.heap.size w w' := by
  obtain ⟨A1, c1, A2, c2, A3, c3, h⟩ := h
  have H := hid h
  clear h
  go_enter Try.func15, Try.ntmps15
  have p0 : w.cell? ⟨g, 0, none⟩ = some (.int .i64 s.n) := H.out.blk.cell 0
  have p1 : w.cell? ⟨g, 1, none⟩ = some (.slice A1 s.dur.length c1) := H.out.blk.cell 1
  have p2 : w.cell? ⟨g, 2, none⟩ = some (.slice A2 s.log.length c2) := H.out.blk.cell 2
  have p3 : w.cell? ⟨g, 3, none⟩ = some (.slice A3 s.marks.length c3) := H.out.blk.cell 3
  have p4 : w.cell? ⟨g, 4, none⟩ = some (.bool s.fails) := H.out.blk.cell 4
  have p5 : w.cell? ⟨g, 5, none⟩ = some (.bool s.hurt) := H.out.blk.cell 5
  have hgl := H.out.blk.lt
  go_wp2_with fail
  go_ret
  have hb : Below w.heap.size w (w.alloc (.cells #[Value.int IntKind.i64 s.n, Value.slice A1 s.dur.length c1, Value.slice A2 s.log.length c2, Value.slice A3 s.marks.length c3, Value.bool s.fails, Value.bool s.hurt] 65)) := (Below.refl _ _).alloc (Nat.le_refl _) _
  have H2 := H.out.below hb (Nat.le_refl _)
  exact ⟨rfl, ⟨A1, c1, A2, c2, A3, c3, ⟨Blk.new _ _ _, H2.dur, H2.log, H2.marks, fun e => by have := H.out.lt _ e; omega, H2.lt⟩⟩, ⟨A1, c1, A2, c2, A3, c3, H2⟩, hb⟩
end MbP
end Go.Proofs.Yteglhalninlapaa
set_option maxRecDepth 100000
namespace Go.Proofs.Yteglhalninlapaa
open Go.ChangeShapes Go.WideShapes Go.ChangeAt Go.RowKit
def u8s (l : List Nat) : List UInt8 := l.map UInt8.ofNat
theorem u8s_length (l : List Nat) : (u8s l).length = l.length := List.length_map _
/-- A text of these bytes. -/
def str (l : List Nat) : ByteArray := ⟨(u8s l).toArray⟩
theorem u8s_inj {l m : List Nat} (hl : ∀ x ∈ l, x < 256) (hm : ∀ x ∈ m, x < 256) (h : u8s l = u8s m) : l = m := by
  have key : ∀ {l : List Nat}, (∀ x ∈ l, x < 256) → (u8s l).map (·.toNat) = l := fun {l} hl => by
    unfold u8s
    rw [List.map_map]
    conv => rhs; rw [← List.map_id l]
    exact List.map_congr_left fun x hx => by
      have := hl x hx
      simp; omega
  rw [← key hl, h, key hm]
theorem str_inj {l m : List Nat} (hl : ∀ x ∈ l, x < 256) (hm : ∀ x ∈ m, x < 256) (h : str l = str m) : l = m := by
  unfold str at h
  exact u8s_inj hl hm (by simpa using h)
theorem toList_ne {a b : ByteArray} (h : a ≠ b) : (a.toList == b.toList) = false := by
  rw [beq_eq_false_iff_ne]
  intro e
  rw [ByteArray.toList_eq, ByteArray.toList_eq] at e
  exact h (by cases a; cases b; simp at e; rw [e])
theorem run_bytes_str {A : Option Addr} {l : List Nat} {n cap B : Nat} (hl : l.length = n) (h256 : ∀ x ∈ l, x < 256) (h0 : A = none → n = 0 ∧ cap = 0) {w : World} (hA : Byt w B A l) :
    (convert 33 9 (.slice A n cap)).run Try.prog w = .ok (.string (str l)) w := by
  by_cases hn : 0 < l.length
  · obtain ⟨b, o, rfl, _, hr⟩ := hA hn
    have h := run_convert_bytes_back (P := Try.prog) w 33 9 5 ⟨b, o, none⟩ cap (u8s l) Try.underlying33 Try.underlying5 Try.underlying9 (fun j hj => by
      rw [u8s_length] at hj
      have hg : l.getD j 0 = l[j] := by rw [List.getD_eq_getElem?_getD, List.getElem?_eq_getElem hj]; rfl
      have hlt := h256 l[j] (List.getElem_mem hj)
      rw [Addr.add_mid, hr j hj, hg]
      simp only [u8s, List.getElem_map]
      congr 2
      simp; omega)
    rw [u8s_length, hl] at h
    exact h
  · obtain rfl := List.eq_nil_of_length_eq_zero (show l.length = 0 by omega)
    obtain rfl : n = 0 := hl.symm
    cases A with
    | some ad => exact run_convert_bytes_back (P := Try.prog) w 33 9 5 ad cap [] Try.underlying33 Try.underlying5 Try.underlying9 fun j hj => absurd hj (by simp)
    | none =>
      rw [run_convert_bytes_string w 33 9 5 none 0 cap Try.underlying33 Try.underlying5 Try.underlying9]
      simp [Conv.bytesToString, str, u8s]
      rfl
/-- A slice of bytes that came in, of which the first thousand are looked at. -/
structure Arg (w : World) (K : Option Addr) (key : List Nat) (kn kcap : Nat) : Prop where
  len : key.length = kn
  cap : kn ≤ kcap
  max : kcap ≤ maxLen
  b256 : B256 key
  none : K = none → kn = 0 ∧ kcap = 0
  byt : Byt w w.heap.size K key
theorem Arg.cut {w : World} {K : Option Addr} {key : List Nat} {kn kcap : Nat} (h : Arg w K key kn kcap) : Arg w K (key.take 1000) (min kn 1000) kcap where
  len := by rw [List.length_take, h.len]; omega
  cap := by have := h.cap; omega
  max := h.max
  b256 := h.b256.take 1000
  none e := by obtain ⟨h1, h2⟩ := h.none e; exact ⟨by omega, h2⟩
  byt := h.byt.take 1000
theorem Arg.on {w w' : World} {K : Option Addr} {key : List Nat} {kn kcap : Nat} (h : Arg w K key kn kcap) (hb : Below w.heap.size w w') : Arg w' K key kn kcap where
  len := h.len
  cap := h.cap
  max := h.max
  b256 := h.b256
  none := h.none
  byt := (h.byt.below hb (Nat.le_refl _)).more hb.size
theorem Own.arg {w : World} {B : Nat} {v : Value} {l : List Nat} (h : Own 5 .u8 w B v l) (hb : B256 l) : ∃ A cap, v = .slice A l.length cap ∧ Arg w A l l.length cap := by
  rcases h.form with ⟨rfl, rfl⟩ | ⟨g, cap, rfl, _, _, h1, h2, h3⟩
  · exact ⟨.none, 0, rfl, rfl, Nat.le_refl _, Nat.zero_le _, hb, fun _ => ⟨rfl, rfl⟩, Byt.none rfl⟩
  · exact ⟨_, cap, rfl, rfl, h1, h2, hb, (fun e => by cases e), h3.byt⟩
theorem Arg.str {w : World} {K : Option Addr} {key : List Nat} {kn kcap : Nat} (h : Arg w K key kn kcap) : (convert 33 9 (.slice K kn kcap)).run Try.prog w = .ok (.string (str key)) w := run_bytes_str h.len h.b256 h.none h.byt
end Go.Proofs.Yteglhalninlapaa
set_option maxRecDepth 100000
namespace Go.Proofs.Yteglhalninlapaa
open Go.ChangeShapes Go.WideShapes Go.ChangeAt Go.RowKit
attribute [local go_sem] Gives GivesE
theorem Arg.turn {S : Nat → Prop} {w w' : World} {K : Option Addr} {key : List Nat} {kn kcap : Nat} (h : Arg w K key kn kcap) (ht : Turn S w w') (hne : ∀ b o, 0 < key.length → K = some ⟨b, o, .none⟩ → ¬ S b) : Arg w' K key kn kcap where
  len := h.len
  cap := h.cap
  max := h.max
  b256 := h.b256
  none := h.none
  byt hn := by
    obtain ⟨b, o, e, hl, hr⟩ := h.byt hn
    exact ⟨b, o, e, Nat.lt_of_lt_of_le hl ht.size, fun i hi => ht.cell (p := ⟨b, o + i, .none⟩) (hr i hi) (hne b o hn e)⟩
namespace MbP
open MbM
theorem kept_length (l : List Pt) (picks : List Nat) : ∀ n, (keptN l picks n).length ≤ n
  | 0 => Nat.le_refl _
  | n + 1 => by
    rw [kept_step, List.length_append]
    have := kept_length l picks n
    have h2 : (if picks.getD n 0 = 0 then ([] : List Pt) else l[n]?.toList).length ≤ 1 := by
      split
      · simp
      · cases l[n]? <;> simp
    omega
def durK (s : Ls) (picks : List Nat) (k : Nat) : Ls := { s with dur := s.dur ++ keptN s.log picks k }
def crashL (s : Ls) (picks : List Nat) : Ls := { s with dur := s.dur ++ kept s.log picks, log := [] }
set_option maxHeartbeats 800000 in
set_option maxRecDepth 100000 in
theorem crash_any (g : Nat) (I : Nat → Prop) (s : Ls) (hs : s.dur.length + s.log.length ≤ 400000) (P : Option Addr) (picks : List Nat) (pn pc : Nat) (w : World) (h : RM w g I s) (hp : Arg w P picks pn pc) (hne : ∀ b o, 0 < picks.length → P = some ⟨b, o, none⟩ → b ≠ g) :
    Calls Try.prog 35 #[.pointer (some ⟨g, 0, none⟩), .slice P pn pc] w fun e w' => e = .returned (.tuple #[]) ∧ RMo w g I (crashL s picks) w' := by
  obtain ⟨A1, c1, A2, c2, A3, c3, h⟩ := h
  have hgl := h.blk.lt
  have HS := hid hs
  have HP := hid hp
  have HNE := hid hne
  have H := hid h
  have hpn : pn ≤ 9223372036854775807 := by have := hp.cap; have := hp.max; unfold maxLen at *; omega
  clear hs hp hne h
  go_enter Try.func35, Try.ntmps35
  go_wp2_with fail
  go_loopw [4] (fun u wr => ∃ (k : Nat) (J : Nat → Prop) (A : Option Addr) (c : Nat), u = .int .i64 k ∧ k ≤ s.log.length ∧ (k ≤ pn ∨ k = 0) ∧ Hid (Rm wr g J (durK s picks k) A c A2 c2 A3 c3) ∧ Hid (∀ b, J b → I b ∨ w.heap.size ≤ b) ∧ Hid (Turn (fun b => b = g) w wr)) (fun u _ => s.log.length - (intOf u).toNat)
  case atStart => exact ⟨0, I, A1, c1, rfl, Nat.zero_le _, .inr rfl, hid (by unfold durK; rw [kept_zero, List.append_nil]; exact H.out), hid fun b e => .inl e, hid (Turn.refl _ _)⟩
  case round =>
    obtain ⟨k, J, A, c, rfl, hk, hkp, hR, hJ, hT⟩ := hrel
    have p2 : wr.cell? ⟨g, 2, none⟩ = some (.slice A2 s.log.length c2) := hR.out.blk.cell 2
    by_cases hgo : k < s.log.length ∧ k < pn
    · obtain ⟨hk1, hk2⟩ := hgo
      have t1 : (k : Int) < (s.log.length : Int) := by omega
      have t2 : (k : Int) < (pn : Int) := by omega
      have AP := HP.out.turn hT.out HNE.out
      obtain ⟨b, o, rfl, hbl, hr⟩ := AP.byt (by rw [AP.len]; omega)
      obtain ⟨x, hx⟩ : ∃ x, x = picks.getD k 0 := ⟨_, rfl⟩
      have q1 : wr.cell? ⟨b, o + k, none⟩ = some (.int .u8 (x : Nat)) := by rw [hx]; exact hr k (by rw [AP.len]; exact hk2)
      obtain ⟨p, hpk⟩ : ∃ p, s.log[k]? = some p := ⟨_, List.getElem?_eq_getElem hk1⟩
      have HX := hid hx
      have HPK := hid hpk
      clear AP hr hx hpk hkp
      by_cases hx0 : x = 0
      · subst hx0
        go_wp2_with fail
        go_roundw
        case rel => exact ⟨k + 1, J, A, c, by go_num, by omega, .inl (by omega), hid (by unfold durK; rw [kept_skip HX.out.symm]; exact hR.out), hJ, hT⟩
        case measure => simp [intOf] <;> omega
      · have tx : ((x : Int) != 0) = true := by simp; omega
        have tw : IntKind.i64.wrap ((k : Int) + 1) = ((k + 1 : Nat) : Int) := (IntWalk.i64_in _ (by omega)).trans (by omega)
        obtain ⟨d, hd⟩ : ∃ d, d = (durK s picks k).dur := ⟨_, rfl⟩
        have HD := hid hd
        have hdl := hid (show d.length + 1 ≤ 1000000 by rw [hd]; unfold durK; rw [List.length_append]; have := kept_length s.log picks k; have := HS.out; omega)
        have hnx := hid (show (durK s picks (k + 1)).dur = d ++ [p] by rw [hd]; unfold durK; rw [kept_pick HPK.out (by rw [← HX.out]; exact hx0), List.append_assoc])
        have p1 : wr.cell? ⟨g, 1, none⟩ = some (.slice A d.length c) := by rw [hd]; exact hR.out.blk.cell 1
        have hpe := hid (show (s.log.drop k).take (k + 1 - k) = [p] by
          rw [show k + 1 - k = 1 by omega, List.drop_eq_getElem_cons hk1, List.take_succ_cons, List.take_zero]
          have := HPK.out
          rw [List.getElem?_eq_getElem hk1] at this
          rw [Option.some.inj this])
        clear hd
        go_upto_region 4 with fail
        refine wp_region_y [some (.pointer (some ⟨g, 0, none⟩)), some (.pointer (some ⟨g, 0, none⟩)), some (.pointer (some ⟨g, 0, none⟩)), some (.pointer (some ⟨g, 1, none⟩)), some (.slice A d.length c), some (.pointer (some ⟨g, 0, none⟩)), some (.pointer (some ⟨g, 0, none⟩)), some (.pointer (some ⟨g, 2, none⟩)), some (.slice A2 s.log.length c2), some (.int .i64 k), some (.int .i64 k), some (.int .i64 ((k + 1 : Nat) : Int)), none, none, some (.pointer (some ⟨g, 0, none⟩)), some (.pointer (some ⟨g, 1, none⟩))]
          [(12, spX 65 atL J [p]), (13, spX 65 atL (fun b => wr.heap.size ≤ b) (d ++ [p]))] (fun y hy => by simp only [List.mem_cons, List.not_mem_nil, or_false] at hy; rcases hy with rfl | rfl <;> exact spX_ok _ _ _ _) 16 (by kernel_rfl) (by kernel_rfl) (by kernel_rfl) fun vs => ?_
        simp only [List.take_succ_cons, List.take_zero, List.drop_succ_cons, List.drop_zero]
        refine ⟨.inl ⟨rfl, fun dd w' hd hC hDs => ?_⟩, fun e => ?_⟩
        · go_simp
          first | exact ⟨rfl, hC, Below.refl _ _, trivial⟩ | exact ⟨rfl, Below.refl _ _, trivial⟩ | exact ⟨hC, Below.refl _ _, trivial⟩
        have e' : vs 0 = _ := e
        rw [e']
        clear e e'
        simp only [Act.put, List.setIfInBounds_toArray, List.set_cons_succ, List.set_cons_zero]
        refine ⟨.inl ⟨rfl, fun dd w' hd hC hDs => ?_⟩, fun e => ?_⟩
        · go_simp
          first | exact ⟨rfl, hC, Below.refl _ _, trivial⟩ | exact ⟨rfl, Below.refl _ _, trivial⟩ | exact ⟨hC, Below.refl _ _, trivial⟩
        have e' : vs 1 = _ := e
        rw [e']
        clear e e'
        simp only [Act.put, List.setIfInBounds_toArray, List.set_cons_succ, List.set_cons_zero]
        refine ⟨.inl ⟨rfl, fun dd w' hd hC hDs => ?_⟩, fun e => ?_⟩
        · go_simp
          first | exact ⟨rfl, hC, Below.refl _ _, trivial⟩ | exact ⟨rfl, Below.refl _ _, trivial⟩ | exact ⟨hC, Below.refl _ _, trivial⟩
        have e' : vs 2 = _ := e
        rw [e']
        clear e e'
        simp only [Act.put, List.setIfInBounds_toArray, List.set_cons_succ, List.set_cons_zero]
        refine ⟨.inl ⟨rfl, fun dd w' hd hC hDs => ?_⟩, fun e => ?_⟩
        · go_simp
          first | exact ⟨rfl, hC, Below.refl _ _, trivial⟩ | exact ⟨rfl, Below.refl _ _, trivial⟩ | exact ⟨hC, Below.refl _ _, trivial⟩
        have e' : vs 3 = _ := e
        rw [e']
        clear e e'
        simp only [Act.put, List.setIfInBounds_toArray, List.set_cons_succ, List.set_cons_zero]
        refine ⟨.inl ⟨rfl, fun dd w' hd hC hDs => ?_⟩, fun e => ?_⟩
        · have h1 : w'.cell? ⟨g, 1, none⟩ = some (.slice A d.length c) := by rw [HD.out]; exact (hR.out.below hC (Nat.le_refl _)).blk.cell 1
          go_simp
          first | exact ⟨rfl, hC, Below.refl _ _, trivial⟩ | exact ⟨rfl, Below.refl _ _, trivial⟩ | exact ⟨hC, Below.refl _ _, trivial⟩
        have e' : vs 4 = _ := e
        rw [e']
        clear e e'
        simp only [Act.put, List.setIfInBounds_toArray, List.set_cons_succ, List.set_cons_zero]
        refine ⟨.inl ⟨rfl, fun dd w' hd hC hDs => ?_⟩, fun e => ?_⟩
        · go_simp
          first | exact ⟨rfl, hC, Below.refl _ _, trivial⟩ | exact ⟨rfl, Below.refl _ _, trivial⟩ | exact ⟨hC, Below.refl _ _, trivial⟩
        have e' : vs 5 = _ := e
        rw [e']
        clear e e'
        simp only [Act.put, List.setIfInBounds_toArray, List.set_cons_succ, List.set_cons_zero]
        refine ⟨.inl ⟨rfl, fun dd w' hd hC hDs => ?_⟩, fun e => ?_⟩
        · go_simp
          first | exact ⟨rfl, hC, Below.refl _ _, trivial⟩ | exact ⟨rfl, Below.refl _ _, trivial⟩ | exact ⟨hC, Below.refl _ _, trivial⟩
        have e' : vs 6 = _ := e
        rw [e']
        clear e e'
        simp only [Act.put, List.setIfInBounds_toArray, List.set_cons_succ, List.set_cons_zero]
        refine ⟨.inl ⟨rfl, fun dd w' hd hC hDs => ?_⟩, fun e => ?_⟩
        · go_simp
          first | exact ⟨rfl, hC, Below.refl _ _, trivial⟩ | exact ⟨rfl, Below.refl _ _, trivial⟩ | exact ⟨hC, Below.refl _ _, trivial⟩
        have e' : vs 7 = _ := e
        rw [e']
        clear e e'
        simp only [Act.put, List.setIfInBounds_toArray, List.set_cons_succ, List.set_cons_zero]
        refine ⟨.inl ⟨rfl, fun dd w' hd hC hDs => ?_⟩, fun e => ?_⟩
        · have h1 : w'.cell? ⟨g, 2, none⟩ = some (.slice A2 s.log.length c2) := (hR.out.below hC (Nat.le_refl _)).blk.cell 2
          go_simp
          first | exact ⟨rfl, hC, Below.refl _ _, trivial⟩ | exact ⟨rfl, Below.refl _ _, trivial⟩ | exact ⟨hC, Below.refl _ _, trivial⟩
        have e' : vs 8 = _ := e
        rw [e']
        clear e e'
        simp only [Act.put, List.setIfInBounds_toArray, List.set_cons_succ, List.set_cons_zero]
        refine ⟨.inl ⟨rfl, fun dd w' hd hC hDs => ?_⟩, fun e => ?_⟩
        · go_simp
          first | exact ⟨rfl, hC, Below.refl _ _, trivial⟩ | exact ⟨rfl, Below.refl _ _, trivial⟩ | exact ⟨hC, Below.refl _ _, trivial⟩
        have e' : vs 9 = _ := e
        rw [e']
        clear e e'
        simp only [Act.put, List.setIfInBounds_toArray, List.set_cons_succ, List.set_cons_zero]
        refine ⟨.inl ⟨rfl, fun dd w' hd hC hDs => ?_⟩, fun e => ?_⟩
        · go_simp
          first | exact ⟨rfl, hC, Below.refl _ _, trivial⟩ | exact ⟨rfl, Below.refl _ _, trivial⟩ | exact ⟨hC, Below.refl _ _, trivial⟩
        have e' : vs 10 = _ := e
        rw [e']
        clear e e'
        simp only [Act.put, List.setIfInBounds_toArray, List.set_cons_succ, List.set_cons_zero]
        refine ⟨.inl ⟨rfl, fun dd w' hd hC hDs => ?_⟩, fun e => ?_⟩
        · have h1 : IntKind.i64.wrap ((k : Int) + 1) = ((k + 1 : Nat) : Int) := tw
          go_simp
          first | exact ⟨rfl, hC, Below.refl _ _, trivial⟩ | exact ⟨rfl, Below.refl _ _, trivial⟩ | exact ⟨hC, Below.refl _ _, trivial⟩
        have e' : vs 11 = _ := e
        rw [e']
        clear e e'
        simp only [Act.put, List.setIfInBounds_toArray, List.set_cons_succ, List.set_cons_zero]
        refine ⟨.inl ⟨rfl, fun dd w' hd hC hDs => ?_⟩, fun e => ?_⟩
        · refine gE_slX eltAt undAt elemAt rfl rfl rfl (hR.out.below hC (Nat.le_refl _)).log (by omega) (by show k + 1 ≤ s.log.length; omega) fun A' ha => ?_
          rw [show (durK s picks k).log = s.log from rfl, hpe.out, show k + 1 - k = 1 by omega] at ha
          rw [show k + 1 - k = 1 by omega]
          exact ⟨⟨A', _, rfl⟩, hC, Below.refl _ _, yD_some rfl ⟨A', _, rfl, ha⟩⟩
        obtain ⟨A8, c8, e'⟩ : ∃ (A : Option Addr) (c : Nat), vs 12 = .slice A 1 c := e
        rw [e']
        have E8 := hid e'
        clear e'
        simp only [Act.put, List.setIfInBounds_toArray, List.set_cons_succ, List.set_cons_zero]
        refine ⟨.inl ⟨rfl, fun dd w' hd hC hDs => ?_⟩, fun e => ?_⟩
        · obtain ⟨A', c', f, sl⟩ := hDs 12 (by kernel_rfl)
          rw [E8.out] at f
          cases f
          go_simp
          have hdur := (hR.out.below hC (Nat.le_refl _)).dur
          rw [← HD.out] at hdur
          refine (joined_any J J A A8 d [p] _ 1 c c8 (by have := hdl.out; omega) w' hdur sl).mono ?_
          rintro e w3 ⟨v, rfl, o3, h3⟩
          obtain ⟨A', c', rfl, s3⟩ := o3.sli atL_len
          exact ⟨_, rfl, ⟨A', c', rfl⟩, hC.trans (h3.mono hC.size), h3, yD_some rfl ⟨A', c', rfl, s3.mono fun b hb => Nat.le_trans hC.size hb⟩⟩
        obtain ⟨A9, c9, e'⟩ : ∃ (A : Option Addr) (c : Nat), vs 13 = .slice A (d ++ [p]).length c := e
        rw [e']
        have E9 := hid e'
        clear e'
        simp only [Act.put, List.setIfInBounds_toArray, List.set_cons_succ, List.set_cons_zero]
        refine ⟨.inl ⟨rfl, fun dd w' hd hC hDs => ?_⟩, fun e => ?_⟩
        · go_simp
          first | exact ⟨rfl, hC, Below.refl _ _, trivial⟩ | exact ⟨rfl, Below.refl _ _, trivial⟩ | exact ⟨hC, Below.refl _ _, trivial⟩
        have e' : vs 14 = _ := e
        rw [e']
        clear e e'
        simp only [Act.put, List.setIfInBounds_toArray, List.set_cons_succ, List.set_cons_zero]
        refine ⟨.inl ⟨rfl, fun dd w' hd hC hDs => ?_⟩, fun e => ?_⟩
        · go_simp
          first | exact ⟨rfl, hC, Below.refl _ _, trivial⟩ | exact ⟨rfl, Below.refl _ _, trivial⟩ | exact ⟨hC, Below.refl _ _, trivial⟩
        have e' : vs 15 = _ := e
        rw [e']
        clear e e'
        simp only [Act.put, List.setIfInBounds_toArray, List.set_cons_succ, List.set_cons_zero]
        intro dd w3 hall hC3 hDs
        obtain ⟨A', c', f, sl⟩ := hDs 13 (by omega)
        rw [E9.out] at f
        cases f
        have B3 := hid hC3
        have hgr := hR.out.blk.lt
        have H3 := hR.out.below hC3 (Nat.le_refl _)
        have SL := hid (sl.bound.mono (T := nw J wr.heap.size w3) fun b hb => .inr hb)
        have p3 : w3.cell? ⟨g, 1, none⟩ = some (.slice A d.length c) := by rw [HD.out]; exact H3.blk.cell 1
        have fz := H3.blk.frozen 1
        have H4 := hid (H3.nw (B := wr.heap.size) hgr)
        have hwr := hid hT.out.size
        have hTT := hid (hT.out.trans (Turn.of_new (S := fun b => b = g) B3.out) fun _ h => .inl h)
        clear hR hT hall hC3 hDs sl H3 E8 E9 p1 q1 p2 hgr
        go_wp2_with fail
        have H5 := H4.out.setDur SL.out
        have T5 := hid (hTT.out.trans (tgt (w := w3) (g := g) (j := 1) (v := .slice A9 (d ++ [p]).length c9)) fun _ h => .inl h)
        simp only [List.length_append, List.length_cons, List.length_nil, Nat.zero_add] at H5 T5
        go_roundw
        case rel =>
          refine ⟨k + 1, nw J wr.heap.size w3, A9, c9, by go_num, by omega, .inl (by omega), hid ?_, hid ?_, T5⟩
          · have e : durK s picks (k + 1) = { durK s picks k with dur := d ++ [p] } := by
              show { s with dur := (durK s picks (k + 1)).dur } = _
              rw [hnx.out]; rfl
            rw [e]; exact H5
          · intro b hb
            rcases hb with hb | hb
            · exact hJ.out b hb
            · exact .inr (Nat.le_trans hwr.out hb.1)
        case measure => simp [intOf] <;> omega
    · have hkk : kept s.log picks = keptN s.log picks k := by
        unfold kept
        by_cases h1 : k < s.log.length
        · exact kept_stop (by rw [HP.out.len]; omega) (by omega)
        · rw [show k = s.log.length by omega]
      have HKK := hid hkk
      have f2 := hR.out.blk.frozen 2
      have hfin := hid (show Rm (wr.setCell ⟨g, 2, none⟩ (.slice none 0 0)) g J (crashL s picks) A c .none 0 A3 c3 by
        have h5 := hR.out.setLog (l := []) (Sli.nil _ _ _ _)
        have e : crashL s picks = { durK s picks k with log := [] } := by unfold crashL durK; rw [HKK.out]
        rw [e]; exact h5)
      have hend := hid (show RMo w g I (crashL s picks) (wr.setCell ⟨g, 2, none⟩ (.slice none 0 0)) from ⟨J, ⟨_, _, _, _, _, _, hfin.out⟩, hJ.out, hT.out.trans tgt fun _ h => .inl h⟩)
      clear hfin hR hJ hT hkk
      by_cases h1 : k < s.log.length
      · have t1 : (k : Int) < (s.log.length : Int) := by omega
        have t2 : decide (k < pn) = false := by simp; omega
        have t3 : ¬ k < pn := by omega
        clear hgo
        go_wp2_with fail
        refine bodyPost_end (results_none rfl _ _ _) rfl ?_
        exact ⟨rfl, hend.out⟩
      · have t1 : decide ((k : Int) < (s.log.length : Int)) = false := by simp; omega
        clear hgo
        go_wp2_with fail
        refine bodyPost_end (results_none rfl _ _ _) rfl ?_
        exact ⟨rfl, hend.out⟩
end MbP
end Go.Proofs.Yteglhalninlapaa
set_option maxRecDepth 100000
namespace Go.Proofs.Yteglhalninlapaa
open Go.ChangeShapes Go.WideShapes Go.ChangeAt Go.RowKit
attribute [local go_sem] Gives GivesE
namespace MbP
open MbM
/-- What of a list is not of sector i. -/
def oth (l : List Pt) (i : Int) : List Pt := l.filter fun p => decide (p.i ≠ i)
theorem oth_step {l : List Pt} {k : Nat} {p : Pt} (h : l[k]? = some p) (i : Int) : oth (l.take (k + 1)) i = oth (l.take k) i ++ (if p.i = i then [] else [p]) := by
  unfold oth
  rw [List.take_add_one, h, List.filter_append]
  congr 1
  by_cases e : p.i = i <;> simp [e]
theorem oth_length (l : List Pt) (i : Int) (k : Nat) : (oth (l.take k) i).length ≤ k := by
  unfold oth
  exact Nat.le_trans (List.length_filter_le _ _) (by rw [List.length_take]; omega)
def setL (s : Ls) (i : Int) (x : Nat → Nat) : Ls := if s.may i then { s with dur := s.dur ++ [⟨i, x⟩], log := oth s.log i, hurt := true } else s
theorem tAt (p : Pt) : RowT 85 (atL p).toArray.size := by
  rw [List.size_toArray, atL_len]
  exact ⟨by kernel_rfl, _, Try.underlying85, rfl⟩
set_option maxHeartbeats 800000 in
set_option maxRecDepth 100000 in
theorem set_any (g : Nat) (I : Nat → Prop) (s : Ls) (i : Int) (x : Nat → Nat) (hs : s.dur.length + s.log.length ≤ 400000) (w : World) (h : RM w g I s) :
    Calls Try.prog 36 #[.pointer (some ⟨g, 0, none⟩), .int .i64 i, .agg (ar 64 x)] w fun e w' => e = .returned (.int .i64 (lookE s i)) ∧ RMo w g I (setL s i x) w' := by
  have HR := hid h
  obtain ⟨A1, c1, A2, c2, A3, c3, h⟩ := h
  have H := hid h
  have hgl := h.blk.lt
  clear h
  obtain ⟨q, hq⟩ : ∃ q, q = s.may i := ⟨_, rfl⟩
  unfold setL lookE
  rw [← hq]
  have HQ := hid (show decide (0 ≤ i ∧ i < s.n) = q from hq.symm)
  have HS := hid hs
  have hl6 : s.log.length ≤ 400000 := by omega
  clear hq hs
  go_enter Try.func36, Try.ntmps36
  go_upto_region 1 with fail
  generalize hw1 : World.alloc w _ = w1
  have b1 := hid (show Blk w1 w.heap.size 32 (ar 64 x) by rw [← hw1]; exact Blk.new _ _ _)
  have BEL := hid (show Below w.heap.size w w1 by rw [← hw1]; exact (Below.refl _ _).alloc (Nat.le_refl _) _)
  have H1 := hid (H.out.below BEL.out (Nat.le_refl _))
  clear hw1 H
  go_wp2_with fail
  refine (may_any g I s A1 c1 A2 c2 A3 c3 i q HQ.out w1 H1.out).mono ?_
  rintro e w' ⟨rfl, rfl⟩
  cases q with
  | false =>
    go_wp2_with fail
    go_ret
    exact ⟨rfl, RMo.same HR.out BEL.out⟩
  | true =>
    go_wp2_with fail
    go_loopw [7, 8] (fun u v wr => ∃ (k : Nat) (vo : Value), u = vo ∧ v = .int .i64 k ∧ k ≤ s.log.length ∧ Hid (OwnP' wr w1.heap.size vo (oth (s.log.take k) i)) ∧ Hid (Below w1.heap.size w1 wr)) (fun _ v _ => s.log.length - (intOf v).toNat)
    case atStart => exact ⟨0, _, rfl, rfl, Nat.zero_le _, hid (by rw [List.take_zero]; exact OwnX.nil _ _ _ _ _), hid (Below.refl _ _)⟩
    case round =>
      obtain ⟨k, vo, rfl, rfl, hk, hO, hB⟩ := hrel
      have H2 := hid (H1.out.below hB.out (Nat.le_refl _))
      have p2 : wr.cell? ⟨g, 2, none⟩ = some (.slice A2 s.log.length c2) := H2.out.blk.cell 2
      by_cases hgo : k < s.log.length
      · have t1 : (k : Int) < (s.log.length : Int) := by omega
        obtain ⟨p, hp⟩ : ∃ p, s.log[k]? = some p := ⟨_, List.getElem?_eq_getElem hgo⟩
        obtain ⟨b, o, rfl, hIb, hbl, hr⟩ := H2.out.log.some hp
        have q0 : wr.cell? ⟨b, o + k * 65, none⟩ = some (.int .i64 p.i) := at_i hr
        have HRg := hid hr
        have hst := oth_step hp i
        clear hr hp hIb
        by_cases he : p.i = i
        · rw [if_pos he, List.append_nil] at hst
          have te : (p.i != i) = false := by simp [he]
          have HST := hid hst
          clear hst he
          go_wp2_with fail
          go_roundw
          case rel => exact ⟨k + 1, _, rfl, by go_num, by omega, hid (by rw [HST.out]; exact hO.out), hB⟩
          case measure => simp [intOf] <;> omega
        · rw [if_neg he] at hst
          have te : (p.i != i) = true := by simp [he]
          have HST := hid hst
          have hlen := hid (show (oth (s.log.take k) i).length + 1 ≤ 1000000 by have := oth_length s.log i k; have := HS.out; omega)
          clear hst he
          have hz := hB.out.size
          go_wp2_with (first
            | ((with_reducible apply ldR (cs := (atL p).toArray) (tAt p)); rfl; exact HRg.out)
            | ((with_reducible apply wlit1 eltAt undAt (x := p)); omega; rfl; rfl)
            | (at_builtin; (with_reducible apply wappX eltAt undAt (B := w1.heap.size) (m := [p]) (S := fun _ => True)); rfl; rfl; exact hO.out.below ((Below.refl _ _).alloc (Nat.le_refl _) _) (Nat.le_refl _); exact sli_lit1 eltAt p wr trivial; exact hlen.out; omega; (simp; omega); intro v2 w2 o2 g2))
          have h2 : Below w1.heap.size w1 w2 := (hB.out.alloc hz _).trans ((Turn.of_grown (S := fun b => w1.heap.size ≤ b) g2 (fun b e => (hO.out.own b e).1)).below (by simp; omega) fun _ h => h)
          go_roundw
          case rel => exact ⟨k + 1, v2, rfl, by go_num, by omega, hid (by rw [HST.out]; exact o2), hid h2⟩
          case measure => simp [intOf] <;> omega
      · have hfull : oth (s.log.take k) i = oth s.log i := by rw [List.take_of_length_le (by omega)]
        have t1 : decide ((k : Int) < (s.log.length : Int)) = false := by simp; omega
        have t2 : ¬ k < s.log.length := hgo
        clear hgo
        rw [hfull] at hO
        obtain ⟨A7, c7, hvo, sl7⟩ := hO.out.sli atL_len
        subst hvo
        obtain ⟨L, hL⟩ : ∃ L, L = oth s.log i := ⟨_, rfl⟩
        rw [← hL] at sl7 ⊢
        have HLL := hid hL
        have BW := hid (BEL.out.trans (hB.out.mono BEL.out.size))
        have SL7 := hid ((sl7.mono (T := fun b => w.heap.size ≤ b) fun b hb => Nat.le_trans BEL.out.size hb).bound.mono (T := nw I w.heap.size wr) fun b hb => .inr hb)
        have H4 := hid (H2.out.nw (B := w.heap.size) hgl)
        have bb := hid (b1.out.below hB.out b1.out.lt)
        have fz := H2.out.blk.frozen 2
        clear hfull hO hL sl7 H1 H2 BEL hB b1
        go_upto_region 10 with fail
        have H5 := H4.out.setLog SL7.out
        have T5 := hid (tgt (w := wr) (g := g) (j := 2) (v := .slice A7 L.length c7))
        have hbg : w.heap.size ≠ g := by omega
        have b5 := hid (bb.out.turn T5.out (fun e => hbg e))
        generalize wr.setCell ⟨g, 2, none⟩ (.slice A7 L.length c7) = w5 at H5 T5 b5 ⊢
        have HZ := hid H5
        clear H5 H4 SL7 bb fz p2 t1 t2
        refine wp_region_y [some (.pointer (some ⟨g, 0, none⟩)), some (.pointer (some ⟨g, 0, none⟩)), some (.pointer (some ⟨g, 0, none⟩)), some (.pointer (some ⟨g, 1, none⟩)), some (.slice A1 s.dur.length c1), some (.int .i64 i), some (.agg (ar 64 x)), some (.agg (atL ⟨i, x⟩).toArray), none, none, some (.pointer (some ⟨g, 0, none⟩)), some (.pointer (some ⟨g, 1, none⟩))]
          [(8, spX 65 atL (fun _ => True) [⟨i, x⟩]), (9, spX 65 atL (fun b => w5.heap.size ≤ b) (s.dur ++ [⟨i, x⟩]))] (fun y hy => by simp only [List.mem_cons, List.not_mem_nil, or_false] at hy; rcases hy with rfl | rfl <;> exact spX_ok _ _ _ _) 12 (by kernel_rfl) (by kernel_rfl) (by kernel_rfl) fun vs => ?_
        simp only [List.take_succ_cons, List.take_zero, List.drop_succ_cons, List.drop_zero]
        refine ⟨.inl ⟨rfl, fun dd w' hd hC hDs => ?_⟩, fun e => ?_⟩
        · go_simp
          first | exact ⟨rfl, hC, Below.refl _ _, trivial⟩ | exact ⟨rfl, Below.refl _ _, trivial⟩ | exact ⟨hC, Below.refl _ _, trivial⟩
        have e' : vs 0 = _ := e
        rw [e']
        clear e e'
        simp only [Act.put, List.setIfInBounds_toArray, List.set_cons_succ, List.set_cons_zero]
        refine ⟨.inl ⟨rfl, fun dd w' hd hC hDs => ?_⟩, fun e => ?_⟩
        · go_simp
          first | exact ⟨rfl, hC, Below.refl _ _, trivial⟩ | exact ⟨rfl, Below.refl _ _, trivial⟩ | exact ⟨hC, Below.refl _ _, trivial⟩
        have e' : vs 1 = _ := e
        rw [e']
        clear e e'
        simp only [Act.put, List.setIfInBounds_toArray, List.set_cons_succ, List.set_cons_zero]
        refine ⟨.inl ⟨rfl, fun dd w' hd hC hDs => ?_⟩, fun e => ?_⟩
        · go_simp
          first | exact ⟨rfl, hC, Below.refl _ _, trivial⟩ | exact ⟨rfl, Below.refl _ _, trivial⟩ | exact ⟨hC, Below.refl _ _, trivial⟩
        have e' : vs 2 = _ := e
        rw [e']
        clear e e'
        simp only [Act.put, List.setIfInBounds_toArray, List.set_cons_succ, List.set_cons_zero]
        refine ⟨.inl ⟨rfl, fun dd w' hd hC hDs => ?_⟩, fun e => ?_⟩
        · go_simp
          first | exact ⟨rfl, hC, Below.refl _ _, trivial⟩ | exact ⟨rfl, Below.refl _ _, trivial⟩ | exact ⟨hC, Below.refl _ _, trivial⟩
        have e' : vs 3 = _ := e
        rw [e']
        clear e e'
        simp only [Act.put, List.setIfInBounds_toArray, List.set_cons_succ, List.set_cons_zero]
        refine ⟨.inl ⟨rfl, fun dd w' hd hC hDs => ?_⟩, fun e => ?_⟩
        · have h1 : w'.cell? ⟨g, 1, none⟩ = some (.slice A1 s.dur.length c1) := (HZ.out.below hC (Nat.le_refl _)).blk.cell 1
          go_simp
          first | exact ⟨rfl, hC, Below.refl _ _, trivial⟩ | exact ⟨rfl, Below.refl _ _, trivial⟩ | exact ⟨hC, Below.refl _ _, trivial⟩
        have e' : vs 4 = _ := e
        rw [e']
        clear e e'
        simp only [Act.put, List.setIfInBounds_toArray, List.set_cons_succ, List.set_cons_zero]
        refine ⟨.inl ⟨rfl, fun dd w' hd hC hDs => ?_⟩, fun e => ?_⟩
        · go_simp
          first | exact ⟨rfl, hC, Below.refl _ _, trivial⟩ | exact ⟨rfl, Below.refl _ _, trivial⟩ | exact ⟨hC, Below.refl _ _, trivial⟩
        have e' : vs 5 = _ := e
        rw [e']
        clear e e'
        simp only [Act.put, List.setIfInBounds_toArray, List.set_cons_succ, List.set_cons_zero]
        refine ⟨.inl ⟨rfl, fun dd w' hd hC hDs => ?_⟩, fun e => ?_⟩
        · exact gE_ldA tSe rfl (b5.out.below hC b5.out.lt).head ⟨rfl, hC, Below.refl _ _, trivial⟩
        have e' : vs 6 = _ := e
        rw [e']
        clear e e'
        simp only [Act.put, List.setIfInBounds_toArray, List.set_cons_succ, List.set_cons_zero]
        refine ⟨.inl ⟨rfl, fun dd w' hd hC hDs => ?_⟩, fun e => ?_⟩
        · exact gE_at rfl rfl ⟨rfl, hC, Below.refl _ _, trivial⟩
        have e' : vs 7 = _ := e
        rw [e']
        clear e e'
        simp only [Act.put, List.setIfInBounds_toArray, List.set_cons_succ, List.set_cons_zero]
        refine ⟨.inl ⟨rfl, fun dd w' hd hC hDs => ?_⟩, fun e => ?_⟩
        · have ha := (Below.refl w'.heap.size w').alloc (Nat.le_refl _) (.cells (atL ⟨i, x⟩).toArray 85)
          exact gE_lit1 (x := (⟨i, x⟩ : Pt)) eltAt undAt (by omega) rfl rfl ⟨⟨_, _, rfl⟩, hC.trans (ha.mono hC.size), ha, yD_some rfl ⟨_, _, rfl, sli_lit1 eltAt (⟨i, x⟩ : Pt) w' trivial⟩⟩
        obtain ⟨A8, c8, e'⟩ : ∃ (A : Option Addr) (c : Nat), vs 8 = .slice A 1 c := e
        rw [e']
        have E8 := hid e'
        clear e'
        simp only [Act.put, List.setIfInBounds_toArray, List.set_cons_succ, List.set_cons_zero]
        refine ⟨.inl ⟨rfl, fun dd w' hd hC hDs => ?_⟩, fun e => ?_⟩
        · obtain ⟨A', c', f, sl⟩ := hDs 8 (by kernel_rfl)
          rw [E8.out] at f
          cases f
          go_simp
          refine (joined_any (nw I w.heap.size wr) (fun _ => True) A1 A8 s.dur [⟨i, x⟩] s.dur.length 1 c1 c8 (by have := HS.out; omega) w' (HZ.out.below hC (Nat.le_refl _)).dur sl).mono ?_
          rintro e w3 ⟨v, rfl, o3, h3⟩
          obtain ⟨A, c, rfl, s3⟩ := o3.sli atL_len
          exact ⟨_, rfl, ⟨A, c, rfl⟩, hC.trans (h3.mono hC.size), h3, yD_some rfl ⟨A, c, rfl, s3.mono fun b hb => Nat.le_trans hC.size hb⟩⟩
        obtain ⟨A9, c9, e'⟩ : ∃ (A : Option Addr) (c : Nat), vs 9 = .slice A (s.dur ++ [(⟨i, x⟩ : Pt)]).length c := e
        rw [e']
        have E9 := hid e'
        clear e'
        simp only [Act.put, List.setIfInBounds_toArray, List.set_cons_succ, List.set_cons_zero]
        refine ⟨.inl ⟨rfl, fun dd w' hd hC hDs => ?_⟩, fun e => ?_⟩
        · go_simp
          first | exact ⟨rfl, hC, Below.refl _ _, trivial⟩ | exact ⟨rfl, Below.refl _ _, trivial⟩ | exact ⟨hC, Below.refl _ _, trivial⟩
        have e' : vs 10 = _ := e
        rw [e']
        clear e e'
        simp only [Act.put, List.setIfInBounds_toArray, List.set_cons_succ, List.set_cons_zero]
        refine ⟨.inl ⟨rfl, fun dd w' hd hC hDs => ?_⟩, fun e => ?_⟩
        · go_simp
          first | exact ⟨rfl, hC, Below.refl _ _, trivial⟩ | exact ⟨rfl, Below.refl _ _, trivial⟩ | exact ⟨hC, Below.refl _ _, trivial⟩
        have e' : vs 11 = _ := e
        rw [e']
        clear e e'
        simp only [Act.put, List.setIfInBounds_toArray, List.set_cons_succ, List.set_cons_zero]
        intro dd w6 hall hC6 hDs
        obtain ⟨A', c', f, sl⟩ := hDs 9 (by omega)
        rw [E9.out] at f
        cases f
        have hg5 := HZ.out.blk.lt
        have H6 := HZ.out.below hC6 (Nat.le_refl _)
        have SL := hid (sl.bound.mono (T := nw (nw I w.heap.size wr) w5.heap.size w6) fun b hb => .inr hb)
        have p6 : w6.cell? ⟨g, 1, none⟩ = some (.slice A1 s.dur.length c1) := H6.blk.cell 1
        have f6 := H6.blk.frozen 1
        have HY := hid (H6.nw (B := w5.heap.size) hg5)
        have T6 := hid (T5.out.trans (Turn.of_new (S := fun b => b = g) hC6) fun _ h => .inl h)
        have hs5 := hid (show w.heap.size ≤ w5.heap.size from Nat.le_trans BW.out.size T5.out.size)
        clear hall hC6 hDs sl H6 E8 E9 b5 HZ T5 hg5
        go_upto_region 11 with fail
        have H7 := HY.out.setDur SL.out
        have T7 := hid (T6.out.trans (tgt (w := w6) (g := g) (j := 1) (v := .slice A9 (s.dur ++ [(⟨i, x⟩ : Pt)]).length c9)) fun _ h => .inl h)
        simp only [List.length_append, List.length_cons, List.length_nil, Nat.zero_add] at H7 T7
        generalize w6.setCell ⟨g, 1, none⟩ _ = w7 at H7 T7 ⊢
        have HX := hid H7
        have p7 : w7.cell? ⟨g, 5, none⟩ = some (.bool s.hurt) := H7.blk.cell 5
        have f7 := H7.blk.frozen 5
        clear H7 HY SL T6 p6 f6
        go_wp2_with fail
        go_ret
        have hfin := HX.out.setHurt true
        rw [HLL.out] at hfin
        refine ⟨rfl, nw (nw I w.heap.size wr) w5.heap.size w6, ⟨_, _, _, _, _, _, hfin⟩, fun b hb => ?_, ((Turn.of_new (S := fun b => b = g) BW.out).trans T7.out (fun k h => Or.inl h)).trans tgt (fun k h => Or.inl h)⟩
        rcases hb with hb | hb
        · exact hb.imp id And.left
        · exact .inr (Nat.le_trans hs5.out hb.1)
end MbP
end Go.Proofs.Yteglhalninlapaa
set_option maxRecDepth 100000
namespace Go.Proofs.Yteglhalninlapaa
open Go.ChangeShapes Go.WideShapes Go.ChangeAt Go.RowKit
section
variable {α : Type} {k : Nat} {en : α → List Value} {E L ty : TypeId} {S T : Nat → Prop} {w : World} {A B : Option Addr} {l m : List α}
theorem flat_read (hE : EltX E k en) {n c : Nat} {ad : Addr} (h : Sli k en S w (some ad) l n c) : ∀ j u, (l.flatMap en)[j]? = some u → w.cell? (ad.add j) = some u := fun j u hj => by
  have hjl := (List.getElem?_eq_some_iff.1 hj).1
  rw [flat_len hE.len] at hjl
  have hq : j / k < l.length := Nat.div_lt_of_lt_mul (by rw [Nat.mul_comm]; exact hjl)
  have h4 := flat_at hE.len l (j / k) (j % k) l[j / k] (List.getElem?_eq_getElem hq) (Nat.mod_lt _ hE.pos)
  rw [show j / k * k + j % k = j by rw [Nat.mul_comm]; exact Nat.div_add_mod j k, hj] at h4
  obtain ⟨b, o, e, _, _, hr⟩ := h.lst (Nat.lt_of_le_of_lt (Nat.zero_le _) hq)
  obtain rfl : ad = ⟨b, o, none⟩ := Option.some.inj e
  have h5 := hr (j / k) l[j / k] (List.getElem?_eq_getElem hq) (j % k) u h4.symm
  rw [Addr.add_mid]
  rwa [show o + j / k * k + j % k = o + j by have := Nat.div_add_mod j k; rw [Nat.mul_comm] at this; omega] at h5
theorem sli_new (hE : EltX E k en) (ls : List α) (zs : List Value) (n c : Nat) (hn : ls.length = n) (hnc : n ≤ c) (hc : c ≤ maxLen) (w' : World) (cs : Array Value) (hcs : cs.toList = ls.flatMap en ++ zs) :
    Sli k en (fun b => w'.heap.size ≤ b) (w'.alloc (.cells cs E)) (some ⟨w'.heap.size, 0, none⟩) ls n c where
  len := hn
  cap := hnc
  max := hc
  none e := by cases e
  lst _ := ⟨w'.heap.size, 0, rfl, Nat.le_refl _, by simp, fun i x hi j u hj => by
    have hb : Blk (w'.alloc (.cells cs E)) w'.heap.size E cs := Blk.new _ _ _
    have hjl : j < k := by have := (List.getElem?_eq_some_iff.1 hj).1; rwa [hE.len] at this
    have h1 := flat_at hE.len ls i j x hi hjl
    rw [Nat.zero_add, hb.cell, ← Array.getElem?_toList, hcs, List.getElem?_append_left (by
      have := (List.getElem?_eq_some_iff.1 hi).1
      rw [flat_len hE.len]
      have := Nat.mul_le_mul_right k (show i + 1 ≤ ls.length from this)
      rw [Nat.add_mul] at this
      omega), h1]
    exact hj⟩
theorem run_full (hE : EltX E k en) (hu : Try.prog.underlying L = some (.slice E)) {n j cB : Nat} (h : Sli k en S w A l n n) (hm : Sli k en T w B m j cB) (hj : 0 < j) (hsz : n + j ≤ 1000000) (hk : k ≤ 1000) :
    ∃ A' c' w', (Builtin.append_ #[L, L] ty #[.slice A n n, .slice B j cB]).run Try.prog w = .ok (.slice A' (n + j) c') w' ∧ Sli k en (fun b => w.heap.size ≤ b) w' A' (l ++ m) (n + j) c' ∧ Below w.heap.size w w' := by
  obtain ⟨i, z, hi, hz, h1, h2, h3⟩ := hE.info
  have hbytes : (n + j) * i.bytes ≤ 140737488355328 := Nat.le_trans (Nat.mul_le_mul hsz (Nat.le_trans h2 (show 16 * k + 16 ≤ 16016 by omega))) (by omega)
  obtain ⟨bd, rfl⟩ : ∃ bd, B = some bd := by
    cases B with
    | none => have := hm.none rfl; omega
    | some bd => exact ⟨bd, rfl⟩
  have hlm : (m.flatMap en).length = j * i.size := by rw [flat_len hE.len, hm.len, h1]
  cases A with
  | none =>
    obtain ⟨rfl, _⟩ := h.none rfl
    obtain rfl := List.eq_nil_of_length_eq_zero h.len
    have hr := run_append_nil (P := Try.prog) w L ty E i z hu hi hz bd j cB (m.flatMap en) hlm (flat_read hE hm) hj (by omega) (by rw [Nat.zero_add] at hbytes; omega)
    rw [Nat.zero_add, List.nil_append]
    exact ⟨_, _, _, hr, sli_new hE m _ j _ hm.len (grownCap_ge _ _ _ _) (grownCap_le_maxLen _ _ _ _ (by unfold maxLen; omega)) w.drew _ (by simp; rfl), (Below.refl _ _).drew.alloc (Nat.le_refl _) _⟩
  | some ad =>
    have hll : (l.flatMap en).length = n * i.size := by rw [flat_len hE.len, h.len, h1]
    have hr := run_append_grow (P := Try.prog) w L ty E i z hu hi hz ad n n (l.flatMap en) hll (flat_read hE h) bd j cB (m.flatMap en) hlm (flat_read hE hm) (by omega) (by omega) (growslice_fits (by omega) hbytes)
    refine ⟨_, _, _, hr, sli_new hE (l ++ m) _ (n + j) _ (by rw [List.length_append, h.len, hm.len]) (grownCap_ge _ _ _ _) (grownCap_le_maxLen _ _ _ _ (by unfold maxLen; omega)) w.drew _ (by simp [List.flatMap_append]; rfl), (Below.refl _ _).drew.alloc (Nat.le_refl _) _⟩
variable {a : Act} {dst : Option Tmp} {pos : String} {after : Array Edge} {gd : Option (Nat × Bool)} {R : Value → World → Prop} {o1 o2 : Operand}
theorem gE_full (hE : EltX E k en) (hu : Try.prog.underlying L = some (.slice E)) {n j cB : Nat} (hx : a.eval o1 = .slice A n n) (hy : a.eval o2 = .slice B j cB) (h : Sli k en S w A l n n) (hm : Sli k en T w B m j cB) (hj : 0 < j) (hsz : n + j ≤ 1000000) (hk : k ≤ 1000)
    (hR : ∀ A' c' w', Sli k en (fun b => w.heap.size ≤ b) w' A' (l ++ m) (n + j) c' → Below w.heap.size w w' → R (.slice A' (n + j) c') w') :
    GivesE Try.prog ⟨dst, .call { callee := .builtin .append, args := #[o1, o2], argTypes := #[L, L] }, ty, pos, after, gd⟩ a w R := by
  obtain ⟨A', c', w', hr, h1, h2⟩ := run_full (ty := ty) hE hu h hm hj hsz hk
  unfold GivesE execOp
  simp only [resolve, invoke, builtin, Sem.run_bind, Sem.run_pure, Result.andThen_ok, List.map_toArray, List.map_cons, List.map_nil, hx, hy, hr]
  exact hR A' c' w' h1 h2
end
end Go.Proofs.Yteglhalninlapaa
