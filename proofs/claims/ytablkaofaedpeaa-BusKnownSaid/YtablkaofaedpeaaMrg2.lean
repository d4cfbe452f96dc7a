/-
  As XRegRel; what the world holds of a value is kept by those operations alone that it does not wait for.
  A region that draws its order, in which several operations write: the class of worlds hangs on which of them have come up (D), and on nothing else.
  A region that draws its order, whose values may hang on the order and on what a call makes of the world: of each operation's value one states what it is like (S), what the world then holds of it (D, kept by what the others do: K), and which operations have come up (C).
  Rows of bytes of any type compared; loaded, in regions whose values hang on their order.
  Regions whose values hang on their order: known values, and operations whose value is only known to be of a kind, with what the world holds of it.
  Lists of elements: a literal of one element; a struct's literal; one element that stands in a new block.
  Lists of elements: an append to a slice that is full: a row of its own.
  A region that draws its order: of each operation's value one states what it is like (S); of the worlds what holds by which operations have come up, and by their values (C).
  A region that draws its order and makes one new variable ('x := f(y)', the call no lone one): its address hangs on the order; all else does not.
  Rows of n bytes loaded in a drawn region that makes a variable.
  Structs and arrays of any cells, loaded and stored whole.
  Results that lie in a row of bytes and in slots; a row of zeros built; a row of one kind of bytes, zero.
  '==' of structs whose fields are rows of bytes.
  What a cell holds, as a value: a count and a label; laid, loaded, compared.
  Lists of elements in a block of their own: read off ranges; several cells stored; cut; cleared.
  The document's cell: what stands in memory of it, and its calls.
  The document's cell: New, Advance, Copy, Same.
  A region in the text's order, walked as one that draws it (a class of worlds is handed on; guards are read off).
  What is wanted of the program's cell: the contracts of its calls, over whatever it lays in memory; a cell alone; the law's works.
  A bus in plain words: members, a cell, steps, what went over it; nothing of the program stands here.
  The document's lists of sectors that were put somewhere: what one says of a sector last; two of them joined.
  The document's member: what stands in memory of it; what it tells of a sector.
  The document's member: Read, Look, Write, Flush.
  The document's member: one field turned; Write.
  The document's member: Flush, Fail, Back.
  The document's member: made, copied.
  Texts of bytes.
  The document's member: Crash.
  The document's member: Set.
  The document's member: Mark.
  The document's member, by what is seen and durable: its calls.
  What is wanted of the program's member: the contracts of its calls, over whatever it lays in memory; a member of the program's beside one of the document's.
-/
import Derived.Test.YtablkaofaedpeaaMrg1
import Derived.Deep.WholeRow
import Derived.Laws.IdiomCopy
import Derived.Laws.IdiomStrings
set_option linter.unusedVariables false
set_option linter.unusedSimpArgs false
set_option maxRecDepth 100000
namespace Go.Proofs.Ytablkaofaedpeaa
open Go.ChangeShapes Go.WideShapes Go.ChangeAt Go.RowKit
/-- An append to a slice leaves any other slice of the call's own that is no longer as it was, even in the same row. -/
theorem Own.beside {e : TypeId} {k : IntKind} {w w' : World} {B B2 : Nat} {v u : Value} {l m : List Nat} (h : Own e k w B v l) (hu : Own e k w B2 u m) (hg : w.grownBy w' u.ownBlock) (hu' : Own e k w' B2 u m) (hlm : l.length ≤ m.length) : Own e k w' B v l := by
  by_cases hne : Apart v u
  · exact h.keep hg hne
  · rcases h.2 with ⟨rfl, h0⟩ | ⟨g, cap, cur, rfl, hB, hgc, hnc, hcm, hcs, ht⟩
    · rw [List.eq_nil_of_length_eq_zero h0]
      exact Own.nil
    · rcases hu.2 with ⟨rfl, _⟩ | ⟨g2, cap2, cur2, rfl, hB2, hgc2, hnc2, hcm2, hcs2, ht2⟩
      · exact absurd (Apart.nil _) hne
      · have hgg : g2 = g := by
          by_cases e' : g2 = g
          · exact e'
          · exact absurd (fun x hx hx2 => e' (by
              have h1 : g = x := Option.some.inj hx
              have h2 : g2 = x := Option.some.inj hx2
              rw [h1, h2])) hne
        subst hgg
        rw [hgc] at hgc2
        cases hgc2
        rcases hu'.2 with ⟨e', _⟩ | ⟨g3, cap3, cur3, hv3, hB3, hgc3, hnc3, hcm3, hcs3, ht3⟩
        · cases e'
        · simp only [Value.slice.injEq, Option.some.injEq, Addr.mk.injEq, and_true] at hv3
          obtain ⟨rfl, _, rfl⟩ := hv3
          have hcap : cap2 = cap := by omega
          subst hcap
          refine ⟨h.1, .inr ⟨_, _, cur3, rfl, hB, hgc3, hnc, hcm, hcs3, ?_⟩⟩
          rw [Nat.mul_one] at ht ht2 ht3 ⊢
          have h3 : (cur3.toList.take m.length).take l.length = (cur.toList.take m.length).take l.length := by rw [ht3, ht2]
          rw [List.take_take, List.take_take, Nat.min_eq_left hlm, ht] at h3
          exact h3
section
variable {P : Program} {ops : Array Oper}
theorem wp_region_rel2 {id : Nat} {Q : Exit → Act → World → Prop} {C : World → Prop} {S : Nat → Value → Prop} {D : Nat → (Nat → Value) → World → Prop} {K : Nat → (Nat → Value) → World → World → Prop} {a : Act} {w : World} {l : List Oper} (n : Nat)
    (hm : P.follows .mixedOrders = true) (ht : tidy l.toArray = true) (hB : tailB l.toArray n = true)
    (v0 : Nat → Value) (h0 : ∀ j, S j (v0 j)) (hD : ∀ i j vs w w', i < n → j ≠ i → Region.waitsFor .any l.toArray j i = false → D j vs w → K i vs w w' → D j vs w')
    (hL : ∀ j i vs v w, j ≠ i → Region.waitsFor .any l.toArray j i = false → D j vs w → D j (updV vs i v) w)
    (hC : C w.drew)
    (h : ∀ vs : Nat → Value, wpR P l.toArray S D K C (fun vs a' => ∀ w', C w' → (∀ k, k < n → D k vs w') → wpList P l.toArray Q (l.drop n) a' w') 0 vs (l.take n) a) : (Code.region id l.toArray true).wp P Q a w := by
  refine region_core (Γ := {vs : Nat → Value // ∀ j, S j (vs j)}) (C := fun γ L w' => C w' ∧ Closed l.toArray L ∧ ∀ k, k < n → L.getD k false = true → D k γ.1 w') n hm ht hB ⟨v0, h0⟩
    ⟨hC, (fun j o _ hl => by rw [getD_replicate_false] at hl; cases hl), fun k _ hk => by rw [getD_replicate_false] at hk; cases hk⟩ (fun γ => γ.1) ?_ ?_
  · intro i o hi γ L w' hsz hr ⟨hC', hcl, hDs⟩
    have hin : i < n := by
      have := (List.getElem?_eq_some_iff.1 hi).1
      rw [List.length_take] at this; omega
    have hun := getD_both (mem_ready.1 hr).1
    have hcl2 := closed_set hcl hr
    have key := (wpR_at γ.2 (l.take n) 0 a (h γ.1)).2 i o hi
    simp only [Nat.zero_add] at key
    have hwait : ∀ j, Region.waitsFor .any l.toArray i j = true → D j γ.1 w' := fun j hj => by
      have h1 := waits_ready hr hj
      have hji : j < i := by
        obtain ⟨o2, ho2, e2, he2, hb2, hon⟩ := Region.waitsFor_spec hj
        have := tidy_edge ht ho2 e2 he2 hb2
        omega
      exact hDs j (by omega) h1
    have step : ∀ (v : Value) (w2 : World), C w2 → (w2 = w' ∨ K i γ.1 w' w2) → D i (updV γ.1 i v) w2 →
        C w2 ∧ Closed l.toArray (L.setIfInBounds i true) ∧ ∀ k, k < n → (L.setIfInBounds i true).getD k false = true → D k (updV γ.1 i v) w2 := fun v w2 hc hb hd => by
      refine ⟨hc, hcl2, fun k hk hL' => ?_⟩
      by_cases e : k = i
      · subst e; exact hd
      · rw [getD_set_ne false (Ne.symm e)] at hL'
        have hw : Region.waitsFor .any l.toArray k i = false := by
          cases hx : Region.waitsFor .any l.toArray k i with
          | false => rfl
          | true =>
            have := waits_closed hcl hL' hx
            rw [hun] at this
            cases this
        refine hL k i _ v _ e hw ?_
        rcases hb with rfl | hb
        · exact hDs k hk hL'
        · exact hD i k _ _ _ hin e hw (hDs k hk hL') hb
    have upd : ∀ v, S i v → ∀ j, S j (updV γ.1 i v j) := fun v hv j => by
      by_cases e : j = i
      · subst e; rw [updV_self]; exact hv
      · rw [updV_ne _ _ e]; exact γ.2 j
    have keep : ∀ v j, L.getD j false = true → γ.1 j = updV γ.1 i v j := fun v j hj => by
      have : j ≠ i := fun e => by subst e; rw [hun] at hj; cases hj
      rw [updV_ne _ _ this]
    rcases key with ⟨k1, k2⟩ | ⟨k1, k2, k3⟩
    · obtain ⟨v, hv, hg⟩ := k2 w' hC' hwait
      refine ⟨⟨updV γ.1 i v, upd v hv⟩, keep v, .inl ⟨k1, ?_⟩⟩
      simp only [updV_self]
      exact gives_mono hg fun w2 ⟨h1, h2, h3⟩ => step v w2 h1 (.inr h2) h3
    · exact ⟨⟨updV γ.1 i undef, upd undef k2⟩, keep undef, .inr ⟨k1, updV_self _ _ _, step undef w' hC' (.inl rfl) (k3 w')⟩⟩
  · intro γ L w' hall ⟨hC', _, hDs⟩
    have key := (wpR_at γ.2 (l.take n) 0 a (h γ.1)).1
    have ez : (fun i => γ.1 (0 + i)) = γ.1 := funext fun i => by rw [Nat.zero_add]
    rw [ez] at key
    exact key w' hC' fun k hk => hDs k hk (hall k hk)
end
end Go.Proofs.Ytablkaofaedpeaa
set_option maxRecDepth 100000
namespace Go.Proofs.Ytablkaofaedpeaa
section
variable {P : Program} {ops : Array Oper}
def upB (d : Nat → Bool) (k : Nat) : Nat → Bool := fun j => if j = k then true else d j
/-- The operations in the order of the text, the k-th first; st tells which of them write. -/
def wpM (P : Program) (ops : Array Oper) (st : Nat → Bool) (D : (Nat → Bool) → World → Prop) (Q : Act → Prop) : Nat → List Oper → Act → Prop
  | _, [], a => Q a
  | k, o :: rest, a => ∃ v, ((Region.wanted o (yielded ops a.tmps) = true ∧ ((st k = true ∧ ∀ d w, d k = false → D d w → Gives P o a w v (D (upB d k))) ∨ (st k = false ∧ ∀ d w, D d w → Gives P o a w v (D d)))) ∨
      (Region.wanted o (yielded ops a.tmps) = false ∧ st k = false ∧ v = undef)) ∧ wpM P ops st D Q (k + 1) rest (a.put o.dst v)
section
variable {D : (Nat → Bool) → World → Prop} {Qk : Act → Prop} {o : Oper} {rest : List Oper} {a : Act} {v : Value} {k : Nat} {st : Nat → Bool}
theorem wpM_nil (h : Qk a) : wpM P ops st D Qk k [] a := h
theorem wpM_val (hk : st k = false) (hw : Region.wanted o (yielded ops a.tmps) = true) (h1 : ∀ d w, D d w → Gives P o a w v (D d)) (h2 : wpM P ops st D Qk (k + 1) rest (a.put o.dst v)) : wpM P ops st D Qk k (o :: rest) a :=
  ⟨v, .inl ⟨hw, .inr ⟨hk, h1⟩⟩, h2⟩
theorem wpM_put (hk : st k = true) (hw : Region.wanted o (yielded ops a.tmps) = true) (h1 : ∀ d w, d k = false → D d w → Gives P o a w v (D (upB d k))) (h2 : wpM P ops st D Qk (k + 1) rest (a.put o.dst v)) : wpM P ops st D Qk k (o :: rest) a :=
  ⟨v, .inl ⟨hw, .inl ⟨hk, h1⟩⟩, h2⟩
end
theorem wpM_vals {st : Nat → Bool} {D : (Nat → Bool) → World → Prop} {Qk : Act → Prop} : ∀ (l : List Oper) (k : Nat) (a : Act), wpM P ops st D Qk k l a → ∃ vals : Nat → Value, Qk (lexF l vals l.length a) ∧
    ∀ i o, l[i]? = some o → ((Region.wanted o (yielded ops (lexF l vals i a).tmps) = true ∧ ((st (k + i) = true ∧ ∀ d w, d (k + i) = false → D d w → Gives P o (lexF l vals i a) w (vals i) (D (upB d (k + i)))) ∨ (st (k + i) = false ∧ ∀ d w, D d w → Gives P o (lexF l vals i a) w (vals i) (D d)))) ∨
      (Region.wanted o (yielded ops (lexF l vals i a).tmps) = false ∧ st (k + i) = false ∧ vals i = undef))
  | [], _, a, h => ⟨fun _ => undef, h, fun i o hi => by simp at hi⟩
  | o :: l, k, a, h => by
    obtain ⟨v, h1, h2⟩ := h
    obtain ⟨vals, hq, hs⟩ := wpM_vals l (k + 1) _ h2
    refine ⟨fun j => match j with | 0 => v | j + 1 => vals j, ?_, fun i o' hi => ?_⟩
    · rw [List.length_cons, lexF_cons]; exact hq
    · cases i with
      | zero =>
        simp only [List.getElem?_cons_zero, Option.some.injEq] at hi
        subst hi
        exact h1
      | succ i =>
        rw [lexF_cons, show k + (i + 1) = k + 1 + i by omega]
        exact hs i o' (by simpa using hi)
theorem gives_imp {o : Oper} {a : Act} {w : World} {v : Value} {R R' : World → Prop} (h : Gives P o a w v R) (hr : ∀ w', R w' → R' w') : Gives P o a w v R' := by
  unfold Gives at *
  generalize (execOp a.eval o).run P w = r at *
  cases r with
  | ok n w' =>
    cases n <;> simp only at h ⊢
    case value u => exact ⟨h.1, hr _ h.2⟩
    case skip => exact ⟨h.1, hr _ h.2⟩
    case enter f args => exact h.mono fun e w'' ⟨he, hR⟩ => ⟨he, hr _ hR⟩
  | halt x w' => exact h
theorem wp_region_set {id : Nat} {Q : Exit → Act → World → Prop} {D : (Nat → Bool) → World → Prop} {a : Act} {w : World} {l : List Oper} (st : Nat → Bool) (n : Nat) (hst : ∀ j, st j = true → j < n) (hm : P.follows .mixedOrders = true) (ht : tidy l.toArray = true) (hB : tailB l.toArray n = true)
    (hirr : ∀ d d' w, (∀ j, st j = true → d j = d' j) → D d w → D d' w) (hC : D (fun _ => false) w.drew)
    (h : wpM P l.toArray st D (fun a' => ∀ w', D (fun _ => true) w' → wpList P l.toArray Q (l.drop n) a' w') 0 (l.take n) a) : (Code.region id l.toArray true).wp P Q a w := by
  obtain ⟨vals, hq, hs⟩ := wpM_vals _ _ _ h
  refine region_core (Γ := Unit) (C := fun _ L w => D (fun j => L.getD j false) w) n hm ht hB () (hirr _ _ _ (fun j _ => (getD_replicate_false _ j).symm) hC) (fun _ => vals) (fun i o hi γ L w hsz hr hC' => ⟨(), fun _ _ => rfl, ?_⟩)
    (fun _ L w' hall hC' => hq w' (hirr _ _ _ (fun j hj => hall j (hst j hj)) hC'))
  have hun := getD_both (mem_ready.1 hr).1
  have hlt : i < L.size := by
    obtain ⟨o', ho', _⟩ := (mem_ready.1 hr).2
    have := (Array.getElem?_eq_some_iff.1 ho').1
    simp at this; omega
  rcases hs i o hi with ⟨h1, ⟨h2, h3⟩ | ⟨h2, h3⟩⟩ | ⟨h1, h2, h3⟩
  · rw [Nat.zero_add] at h2 h3
    refine .inl ⟨h1, gives_imp (h3 _ w hun hC') fun w' hw' => hirr _ _ _ (fun j _ => ?_) hw'⟩
    unfold upB
    by_cases e : j = i
    · subst e; rw [if_pos rfl]; simp [hlt]
    · rw [if_neg e, getD_set_ne false (Ne.symm e)]
  · rw [Nat.zero_add] at h2
    refine .inl ⟨h1, gives_imp (h3 _ w hC') fun w' hw' => hirr _ _ _ (fun j hj => ?_) hw'⟩
    have e : j ≠ i := fun e => by subst e; rw [h2] at hj; cases hj
    rw [getD_set_ne false (Ne.symm e)]
  · rw [Nat.zero_add] at h2
    refine .inr ⟨h1, h3, hirr _ _ _ (fun j hj => ?_) hC'⟩
    have e : j ≠ i := fun e => by subst e; rw [h2] at hj; cases hj
    rw [getD_set_ne false (Ne.symm e)]
end
end Go.Proofs.Ytablkaofaedpeaa
set_option maxRecDepth 100000
namespace Go.Proofs.Ytablkaofaedpeaa
open Go.RowKit
/-- One operation, carried out in the world w; R holds of what it yields and of the world behind it. -/
def GivesE (P : Program) (o : Oper) (a : Act) (w : World) (R : Value → World → Prop) : Prop :=
  match (execOp a.eval o).run P w with
  | .ok (.value u) w' => R u w'
  | .ok .skip w' => R undef w'
  | .ok (.enter f args) w' => Calls P f args w' fun e w'' => ∃ v, e = .returned v ∧ R v w''
  | _ => False
theorem wp_of_givesE {P : Program} {o : Oper} {a : Act} {w : World} {R : Value → World → Prop} {K : Act → World → Prop} {Q : Exit → Act → World → Prop}
    (h : GivesE P o a w R) (hK : ∀ v w', R v w' → K (a.put o.dst v) w') : o.wp P a w K Q := by
  unfold GivesE at h
  unfold Oper.wp
  generalize (execOp a.eval o).run P w = r at *
  cases r with
  | ok n w' =>
    cases n <;> simp only at h <;> simp only [Oper.upon]
    case value u => exact hK _ _ h
    case skip => exact hK _ _ h
    case enter f args => exact h.mono fun e w'' ⟨v, he, hr⟩ => by subst he; exact hK _ _ hr
  | halt x w' => cases h
theorem givesE_mono {P : Program} {o : Oper} {a : Act} {w : World} {R R' : Value → World → Prop} (h : GivesE P o a w R) (hr : ∀ v w', R v w' → R' v w') : GivesE P o a w R' := by
  unfold GivesE at *
  generalize (execOp a.eval o).run P w = r at *
  cases r with
  | ok n w' =>
    cases n <;> simp only at h ⊢
    case value u => exact hr _ _ h
    case skip => exact hr _ _ h
    case enter f args => exact h.mono fun e w'' ⟨v, he, hR⟩ => ⟨v, he, hr _ _ hR⟩
  | halt x w' => exact h
section
variable {P : Program} {ops : Array Oper}
/-- The head of a region: the first n operations, in whatever order; behind them the tail. -/
theorem head_anyE {Γ : Type} {n g : Nat} {Q : Exit → Act → World → Prop} {vals : Γ → Nat → Value} {C : Γ → Array Bool → World → Prop} {a0 : Act} (ht : tidy ops = true) (hn : n ≤ ops.size)
    (hstep : ∀ k o, k < n → ops[k]? = some o → ∀ γ L w, L.size = ops.size → Closed ops L → k ∈ Region.ready .any ops L → C γ L w →
      ((Region.wanted o (yielded ops (fr ops (vals γ) (fun j => decide (j < k)) ops.size a0).tmps) = true ∧ GivesE P o (fr ops (vals γ) (fun j => decide (j < k)) ops.size a0) w (fun v w' => ∃ γ', (∀ j, L.getD j false = true → vals γ j = vals γ' j) ∧ vals γ' k = v ∧ C γ' (L.setIfInBounds k true) w')) ∨
      (Region.wanted o (yielded ops (fr ops (vals γ) (fun j => decide (j < k)) ops.size a0).tmps) = false ∧ ∃ γ', (∀ j, L.getD j false = true → vals γ j = vals γ' j) ∧ vals γ' k = undef ∧ C γ' (L.setIfInBounds k true) w)))
    (hsink : ∀ L, L.size = ops.size → Closed ops L → (∀ t, n ≤ t → t < ops.size → L.getD t true = false) → ∀ i, i < n → L.getD i true = false → ∀ t ∈ Region.ready .any ops L, t < n)
    (htail : ∀ γ L w, L.size = ops.size → (∀ i, i < n → L.getD i false = true) → (∀ t, n ≤ t → t < ops.size → L.getD t true = false) → C γ L w →
      wpAny P .any ops Q g L (fr ops (vals γ) (fun j => decide (j < n)) ops.size a0) w) :
    ∀ (f : Nat) (γ : Γ) (L : Array Bool) (w : World), L.size = ops.size → Closed ops L → (∀ t, n ≤ t → t < ops.size → L.getD t true = false) → cnt n L = f → C γ L w →
      wpAny P .any ops Q (f + g) L (fr ops (vals γ) (fun j => L.getD j false) ops.size a0) w
  | 0, γ, L, w, hs, hcl, htl, hc, hC => by
    have hall : ∀ i, i < n → L.getD i false = true := fun i hi => by
      have h1 : ∀ j ∈ List.range n, ¬ (!L.getD j true) = true := List.countP_eq_zero.1 hc
      have h2 := h1 i (List.mem_range.2 hi)
      exact getD_up (by omega) (by simpa using h2)
    rw [Nat.zero_add, fr_congr (l' := fun j => decide (j < n)) fun j hj => ?_]
    · exact htail γ L w hs hall htl hC
    · by_cases hjn : j < n
      · rw [hall j hjn]; simp [hjn]
      · rw [getD_both (htl j (by omega) hj)]; simp [hjn]
  | f + 1, γ, L, w, hs, hcl, htl, hc, hC => by
    rw [show f + 1 + g = (f + g) + 1 by omega]
    -- the least that has not come up may come up
    have hex : ∃ i, i < n ∧ L.getD i true = false := by
      have hpos : 0 < (List.range n).countP fun i => !L.getD i true := by unfold cnt at hc; omega
      obtain ⟨i, hi, h1⟩ := List.countP_pos_iff.1 hpos
      exact ⟨i, List.mem_range.1 hi, by simpa using h1⟩
    have hready : ∃ i, i ∈ Region.ready .any ops L := by
      obtain ⟨i, hi, hun⟩ := hex
      induction i using Nat.strongRecOn with
      | _ i ih =>
        by_cases hless : ∃ j, j < i ∧ L.getD j true = false
        · obtain ⟨j, hj, hjun⟩ := hless
          exact ih j hj (by omega) hjun
        · have hio : i < ops.size := by omega
          refine ⟨i, mem_ready.2 ⟨hun, ops[i], Array.getElem?_eq_getElem hio, fun e he hb => ?_⟩⟩
          have hlt := tidy_edge ht (Array.getElem?_eq_getElem hio) e he hb
          refine getD_up (by omega) ?_
          cases h0 : L.getD e.on true with
          | true => rfl
          | false => exact absurd ⟨e.on, hlt, h0⟩ hless
    obtain ⟨i0, hi0, hun0⟩ := hex
    refine ⟨fun h0 => (by obtain ⟨i, hi⟩ := hready; rw [h0] at hi; cases hi), fun i hi => ?_⟩
    have hin : i < n := hsink L hs hcl htl i0 hi0 hun0 i hi
    obtain ⟨hun, o, ho, _⟩ := mem_ready.1 hi
    have hio : i < ops.size := by omega
    obtain ⟨hex1, hex2⟩ := exec_same (vals := vals γ) (n := ops.size) (a := a0) ht ho hcl hi
    have hst := hstep i o hin ho γ L w hs hcl hi hC
    have hnext : ∀ γ' w', (∀ j, L.getD j false = true → vals γ j = vals γ' j) → C γ' (L.setIfInBounds i true) w' → wpAny P .any ops Q (f + g) (L.setIfInBounds i true) ((fr ops (vals γ) (fun j => L.getD j false) ops.size a0).put o.dst (vals γ' i)) w' := fun γ' w' hag hC' => by
      have ih := head_anyE (g := g) (Q := Q) ht hn hstep hsink htail f γ' (L.setIfInBounds i true) w' (by simpa using hs) (closed_set hcl hi) (fun t h1 h2 => by rw [getD_set_ne true (by omega)]; exact htl t h1 h2)
        (by
          have h1 : cnt n (L.setIfInBounds i true) + 1 = cnt n L := by
            refine countP_one (i := i) (by simpa using hun) ?_ (fun j hj => by rw [getD_set_ne true (Ne.symm hj)]) List.nodup_range (List.mem_range.2 hin)
            simp [show i < L.size by omega]
          omega) hC'
      rw [fr_congr (l' := fun j => L.getD j false || j == i) fun j _ => ?_, fr_set ht (getD_both hun) hio, ← fr_vals fun j _ hj => hag j hj] at ih
      · unfold dstAt at ih; rw [ho] at ih; exact ih
      · by_cases e : j = i
        · subst e; simp [show j < L.size by omega]
        · have : (j == i) = false := by simpa using e
          rw [getD_set_ne false (Ne.symm e), this, Bool.or_false]
    unfold wpOp
    simp only [ho]
    rcases hst with ⟨hw, hg⟩ | ⟨hw, γ', hag, hv, hC'⟩
    · rw [hex2, if_pos hw]
      refine .inl (wp_of_givesE (R := fun v w' => ∃ γ', (∀ j, L.getD j false = true → vals γ j = vals γ' j) ∧ vals γ' i = v ∧ C γ' (L.setIfInBounds i true) w') ?_ fun v w' ⟨γ', hag, hv, hC'⟩ => by rw [← hv]; exact hnext γ' w' hag hC')
      unfold GivesE at hg ⊢
      rw [hex1]; exact hg
    · rw [hex2, hw, if_neg (by simp)]
      rw [← hv]
      exact hnext γ' w hag hC'

theorem region_coreE {id : Nat} {Q : Exit → Act → World → Prop} {Γ : Type} {C : Γ → Array Bool → World → Prop} {a : Act} {w : World} {l : List Oper} (n : Nat) (hm : P.follows .mixedOrders = true) (ht : tidy l.toArray = true) (hB : tailB l.toArray n = true)
    (γ0 : Γ) (hC : C γ0 (Array.replicate l.length false) w.drew) (vals : Γ → Nat → Value)
    (hs : ∀ i o, (l.take n)[i]? = some o → ∀ γ L w, L.size = l.length → i ∈ Region.ready .any l.toArray L → C γ L w →
      ((Region.wanted o (yielded l.toArray (lexF (l.take n) (vals γ) i a).tmps) = true ∧ GivesE P o (lexF (l.take n) (vals γ) i a) w (fun v w' => ∃ γ', (∀ j, L.getD j false = true → vals γ j = vals γ' j) ∧ vals γ' i = v ∧ C γ' (L.setIfInBounds i true) w')) ∨
      (Region.wanted o (yielded l.toArray (lexF (l.take n) (vals γ) i a).tmps) = false ∧ ∃ γ', (∀ j, L.getD j false = true → vals γ j = vals γ' j) ∧ vals γ' i = undef ∧ C γ' (L.setIfInBounds i true) w)))
    (hq : ∀ γ L w', (∀ i, i < n → L.getD i false = true) → C γ L w' → wpList P l.toArray Q (l.drop n) (lexF (l.take n) (vals γ) (l.take n).length a) w') : (Code.region id l.toArray true).wp P Q a w := by
  refine wp_region_any hm ?_
  have hn : n ≤ l.toArray.size := by
    simp only [tailB, Bool.or_eq_true, Bool.and_eq_true, decide_eq_true_eq] at hB
    rcases hB with h | h <;> omega
  have hlen : (l.take n).length = n := by rw [List.length_take]; simp at hn; omega
  simp only [hlen] at hq
  have hfr : ∀ (γ : Γ) i, i ≤ n → lexF (l.take n) (vals γ) i a = fr l.toArray (vals γ) (fun j => decide (j < i)) l.toArray.size a := fun γ i hi => by
    have := lexF_fr (ops := l.toArray) (vals := vals γ) (a := a) hn i hi
    simpa using this
  have H := head_anyE (P := P) (ops := l.toArray) (n := n) (g := l.toArray.size - n) (Q := Q) (vals := vals) (C := C) (a0 := a) ht hn
    (fun k o hk ho γ L w' hsz _ hr hC' => by
      have hko : (l.take n)[k]? = some o := by rw [List.getElem?_take_of_lt hk]; simpa using ho
      have := hs k o hko γ L w' (by simpa using hsz) hr hC'
      rwa [hfr γ k (by omega)] at this)
    (fun L hL hcl htl i hi hun t hr => by
      obtain ⟨hunt, o, ho, _⟩ := mem_ready.1 hr
      have hto : t < l.toArray.size := (Array.getElem?_eq_some_iff.1 ho).1
      simp only [tailB, Bool.or_eq_true, Bool.and_eq_true, decide_eq_true_eq] at hB
      rcases hB with hB | ⟨⟨⟨hB1, hB2⟩, hB3⟩, _⟩
      · omega
      · rcases Nat.lt_or_ge t n with h | h
        · exact h
        · exact absurd hr (tail_waits hB2 hB3 hB1 ⟨hL, hcl, htl⟩ _ i rfl hi hun t h))
    (fun γ L w' hL hall htl hC' => by
      rw [← hfr γ n (Nat.le_refl n)]
      have hlist := hq γ L w' hall hC'
      have hLe : L = tailL n (l.toArray.size - n) := by
        apply Array.ext_getElem?
        intro j
        unfold tailL
        rw [show ((List.replicate n true ++ List.replicate (l.toArray.size - n) false).toArray)[j]? = (List.replicate n true ++ List.replicate (l.toArray.size - n) false)[j]? from List.getElem?_toArray .., List.getElem?_append]
        simp only [List.length_replicate]
        by_cases hj : j < n
        · have := hall j hj
          rw [if_pos hj]
          simp [show j < L.size by omega] at this
          simp [hj, show j < L.size by omega, this]
        · rw [if_neg hj]
          by_cases hj2 : j < l.toArray.size
          · have := htl j (by omega) hj2
            simp [show j < L.size by omega] at this
            rw [Array.getElem?_eq_getElem (by omega), this, List.getElem?_replicate, if_pos (by omega)]
          · rw [Array.getElem?_eq_none (by omega), List.getElem?_replicate, if_neg (by omega)]
      simp only [tailB, Bool.or_eq_true, Bool.and_eq_true, decide_eq_true_eq] at hB
      rcases hB with hB | ⟨⟨⟨hB1, hB2⟩, hB3⟩, hB4⟩
      · rw [show l.toArray.size - n = 0 by omega]
        have hd : l.drop n = [] := List.drop_eq_nil_of_le (by simp at hB; omega)
        rw [hd] at hlist
        refine ⟨?_, hlist⟩
        apply List.eq_nil_iff_forall_not_mem.2
        intro t hr
        obtain ⟨hunt, o, ho, _⟩ := mem_ready.1 hr
        have hto : t < l.toArray.size := (Array.getElem?_eq_some_iff.1 ho).1
        have := hall t (by omega)
        rw [getD_both hunt] at this
        cases this
      · have hdl : (l.drop n).length = l.toArray.size - n := by simp
        have := wpAny_of_seq (P := P) (ops := l.toArray) (md := .any) (Q' := Q) (l.drop n) n L _ w' (fun j => by simp [List.getElem?_drop]) (by rw [hdl, hLe]; exact hB4) hlist
        rwa [hdl] at this)
    (cnt n (Array.replicate l.toArray.size false)) γ0 (Array.replicate l.toArray.size false) w.drew (by simp) (fun j o _ hl => by rw [getD_replicate_false] at hl; cases hl)
    (fun t _ hts => getD_in (by simpa using hts) (getD_replicate_false _ _)) rfl (by simpa using hC)
  have hc : cnt n (Array.replicate l.toArray.size false) = n := by
    unfold cnt
    have : ∀ i ∈ List.range n, (!(Array.replicate l.toArray.size false).getD i true) = true := fun i hi => by
      have hi' := List.mem_range.1 hi
      have : i < l.length := by simp at hn; omega
      simp [this]
    rw [List.countP_eq_length.2 this, List.length_range]
  rw [hc, show n + (l.toArray.size - n) = l.toArray.size by omega] at H
  have hz : fr l.toArray (vals γ0) (fun j => (Array.replicate l.toArray.size false).getD j false) l.toArray.size a = a := by
    rw [fr_congr (l' := fun j => decide (j < 0)) fun j _ => by rw [getD_replicate_false]; simp]
    have := fr_stop (ops := l.toArray) (vals := vals γ0) (k := 0) l.toArray.size a
    rw [Nat.zero_add] at this
    exact this
  rw [hz] at H
  exact H

/-- The operations in the order of the text, the k-th first. -/
def wpE (P : Program) (ops : Array Oper) (S : Nat → Value → Prop) (D : Nat → (Nat → Value) → World → Prop) (K : Nat → (Nat → Value) → World → World → Prop) (C : (Nat → Bool) → World → Prop) (Q : (Nat → Value) → Act → Prop) : Nat → (Nat → Value) → List Oper → Act → Prop
  | _, vs, [], a => Q vs a
  | k, vs, o :: rest, a => ((Region.wanted o (yielded ops a.tmps) = true ∧ ∀ d w, d k = false → C d w → (∀ j, Region.waitsFor .any ops k j = true → D j vs w) →
      GivesE P o a w fun v w' => S k v ∧ C (upB d k) w' ∧ K k vs w w' ∧ D k (updV vs k v) w') ∨
      (Region.wanted o (yielded ops a.tmps) = false ∧ S k undef ∧ (∀ d w, C d w → C (upB d k) w) ∧ ∀ w, D k (updV vs k undef) w)) ∧ (S k (vs k) → wpE P ops S D K C Q (k + 1) vs rest (a.put o.dst (vs k)))
theorem wpE_at {S : Nat → Value → Prop} {D : Nat → (Nat → Value) → World → Prop} {K : Nat → (Nat → Value) → World → World → Prop} {C : (Nat → Bool) → World → Prop} {Qk : (Nat → Value) → Act → Prop} {vs : Nat → Value} (hS : ∀ j, S j (vs j)) : ∀ (l : List Oper) (k : Nat) (a : Act), wpE P ops S D K C Qk k vs l a →
    Qk vs (lexF l (fun i => vs (k + i)) l.length a) ∧ ∀ i o, l[i]? = some o →
      ((Region.wanted o (yielded ops (lexF l (fun i => vs (k + i)) i a).tmps) = true ∧ ∀ d w, d (k + i) = false → C d w → (∀ j, Region.waitsFor .any ops (k + i) j = true → D j vs w) →
        GivesE P o (lexF l (fun i => vs (k + i)) i a) w fun v w' => S (k + i) v ∧ C (upB d (k + i)) w' ∧ K (k + i) vs w w' ∧ D (k + i) (updV vs (k + i) v) w') ∨
      (Region.wanted o (yielded ops (lexF l (fun i => vs (k + i)) i a).tmps) = false ∧ S (k + i) undef ∧ (∀ d w, C d w → C (upB d (k + i)) w) ∧ ∀ w, D (k + i) (updV vs (k + i) undef) w))
  | [], k, a, h => ⟨h, fun i o hi => by simp at hi⟩
  | o :: l, k, a, h => by
    obtain ⟨h1, h2⟩ := h
    obtain ⟨hq, hs⟩ := wpE_at hS l (k + 1) _ (h2 (hS k))
    have e : (fun i => vs (k + 1 + i)) = fun i => vs (k + (i + 1)) := funext fun i => by rw [show k + 1 + i = k + (i + 1) by omega]
    rw [e] at hq hs
    refine ⟨?_, fun i o' hi => ?_⟩
    · rw [List.length_cons, lexF_cons]; exact hq
    · cases i with
      | zero =>
        simp only [List.getElem?_cons_zero, Option.some.injEq] at hi
        subst hi
        exact h1
      | succ i =>
        rw [lexF_cons, show k + (i + 1) = k + 1 + i by omega]
        exact hs i o' (by simpa using hi)
theorem wp_region_ex {id : Nat} {Q : Exit → Act → World → Prop} {C : (Nat → Bool) → World → Prop} {S : Nat → Value → Prop} {D : Nat → (Nat → Value) → World → Prop} {K : Nat → (Nat → Value) → World → World → Prop} {a : Act} {w : World} {l : List Oper} (n : Nat)
    (hm : P.follows .mixedOrders = true) (ht : tidy l.toArray = true) (hB : tailB l.toArray n = true)
    (v0 : Nat → Value) (h0 : ∀ j, S j (v0 j)) (hD : ∀ i j vs w w', i < n → j ≠ i → Region.waitsFor .any l.toArray j i = false → D j vs w → K i vs w w' → D j vs w')
    (hL : ∀ j i vs v w, j ≠ i → Region.waitsFor .any l.toArray j i = false → D j vs w → D j (updV vs i v) w)
    (hC : C (fun _ => false) w.drew)
    (h : ∀ vs : Nat → Value, wpE P l.toArray S D K C (fun vs a' => ∀ d w', (∀ k, k < n → d k = true) → C d w' → (∀ k, k < n → D k vs w') → wpList P l.toArray Q (l.drop n) a' w') 0 vs (l.take n) a) : (Code.region id l.toArray true).wp P Q a w := by
  refine region_coreE (Γ := {vs : Nat → Value // ∀ j, S j (vs j)}) (C := fun γ L w' => C (fun j => L.getD j false) w' ∧ Closed l.toArray L ∧ ∀ k, k < n → L.getD k false = true → D k γ.1 w') n hm ht hB ⟨v0, h0⟩
    ⟨by rw [show (fun j => (Array.replicate l.length false).getD j false) = fun _ => false from funext fun j => getD_replicate_false _ j]; exact hC, (fun j o _ hl => by rw [getD_replicate_false] at hl; cases hl), fun k _ hk => by rw [getD_replicate_false] at hk; cases hk⟩ (fun γ => γ.1) ?_ ?_
  · intro i o hi γ L w' hsz hr ⟨hC', hcl, hDs⟩
    have hin : i < n := by
      have := (List.getElem?_eq_some_iff.1 hi).1
      rw [List.length_take] at this; omega
    have hun := getD_both (mem_ready.1 hr).1
    have hlt : i < L.size := by
      obtain ⟨o', ho', _⟩ := (mem_ready.1 hr).2
      have := (Array.getElem?_eq_some_iff.1 ho').1
      simp at this; omega
    have hup : (fun j => (L.setIfInBounds i true).getD j false) = upB (fun j => L.getD j false) i := funext fun j => by
      unfold upB
      by_cases e : j = i
      · subst e; rw [if_pos rfl]; simp [hlt]
      · rw [if_neg e, getD_set_ne false (Ne.symm e)]
    have hcl2 := closed_set hcl hr
    have key := (wpE_at γ.2 (l.take n) 0 a (h γ.1)).2 i o hi
    simp only [Nat.zero_add] at key
    have hwait : ∀ j, Region.waitsFor .any l.toArray i j = true → D j γ.1 w' := fun j hj => by
      have h1 := waits_ready hr hj
      have hji : j < i := by
        obtain ⟨o2, ho2, e2, he2, hb2, hon⟩ := Region.waitsFor_spec hj
        have := tidy_edge ht ho2 e2 he2 hb2
        omega
      exact hDs j (by omega) h1
    have step : ∀ (v : Value) (w2 : World), C (upB (fun j => L.getD j false) i) w2 → (w2 = w' ∨ K i γ.1 w' w2) → D i (updV γ.1 i v) w2 →
        C (fun j => (L.setIfInBounds i true).getD j false) w2 ∧ Closed l.toArray (L.setIfInBounds i true) ∧ ∀ k, k < n → (L.setIfInBounds i true).getD k false = true → D k (updV γ.1 i v) w2 := fun v w2 hc hb hd => by
      refine ⟨by rw [hup]; exact hc, hcl2, fun k hk hL' => ?_⟩
      by_cases e : k = i
      · subst e; exact hd
      · rw [getD_set_ne false (Ne.symm e)] at hL'
        have hw : Region.waitsFor .any l.toArray k i = false := by
          cases hx : Region.waitsFor .any l.toArray k i with
          | false => rfl
          | true =>
            have := waits_closed hcl hL' hx
            rw [hun] at this
            cases this
        refine hL k i _ v _ e hw ?_
        rcases hb with rfl | hb
        · exact hDs k hk hL'
        · exact hD i k _ _ _ hin e hw (hDs k hk hL') hb
    have upd : ∀ v, S i v → ∀ j, S j (updV γ.1 i v j) := fun v hv j => by
      by_cases e : j = i
      · subst e; rw [updV_self]; exact hv
      · rw [updV_ne _ _ e]; exact γ.2 j
    have keep : ∀ v j, L.getD j false = true → γ.1 j = updV γ.1 i v j := fun v j hj => by
      have : j ≠ i := fun e => by subst e; rw [hun] at hj; cases hj
      rw [updV_ne _ _ this]
    rcases key with ⟨k1, k2⟩ | ⟨k1, k2, k3, k4⟩
    · refine .inl ⟨k1, givesE_mono (k2 _ w' hun hC' hwait) fun v w2 ⟨h1, h2, h3, h4⟩ => ⟨⟨updV γ.1 i v, upd v h1⟩, keep v, updV_self _ _ _, step v w2 h2 (.inr h3) h4⟩⟩
    · exact .inr ⟨k1, ⟨updV γ.1 i undef, upd undef k2⟩, keep undef, updV_self _ _ _, step undef w' (k3 _ _ hC') (.inl rfl) (k4 w')⟩
  · intro γ L w' hall ⟨hC', _, hDs⟩
    have key := (wpE_at γ.2 (l.take n) 0 a (h γ.1)).1
    have ez : (fun i => γ.1 (0 + i)) = γ.1 := funext fun i => by rw [Nat.zero_add]
    rw [ez] at key
    exact key _ w' hall hC' fun k hk => hDs k hk (hall k hk)
end
end Go.Proofs.Ytablkaofaedpeaa
set_option maxRecDepth 100000
namespace Go.Proofs.Ytablkaofaedpeaa
open Go.ChangeShapes Go.WideShapes Go.ChangeAt Go.RowKit
attribute [local go_sem] Gives GivesE
theorem gE_ldA {a : Act} {w : World} {dst : Option Tmp} {ty : TypeId} {pos : String} {after : Array Edge} {x : Operand} {g o n : Nat} {f : Nat → Nat} {T : TypeId} {gd : Option (Nat × Bool)} {R : Value → World → Prop} (hT : ArT T n) (hx : a.eval x = .pointer (some ⟨g, o, none⟩)) (hb : w.rangeAt g o (ar n f).toList) (hR : R (.agg (ar n f)) w) : GivesE Try.prog ⟨dst, .load T x, ty, pos, after, gd⟩ a w R := by
  unfold GivesE
  simp only [execOp, hx, Sem.run_bind, run_ldm hT hb, Result.andThen_ok, Sem.run_pure]
  exact hR
section
variable {a : Act} {w : World} {dst : Option Tmp} {ty r : TypeId} {pos : String} {after : Array Edge} {x y : Operand} {f g : Nat → Nat} {gd : Option (Nat × Bool)} {R : Value → World → Prop} {T : TypeId} {n : Nat}
theorem exec_eqU (hT : Try.prog.underlying T = some (.array n 5)) (hg : Try.prog.eqGuardType Try.prog.depth T = false) (hx : a.eval x = .agg (ar n f)) (hy : a.eval y = .agg (ar n g)) : (execOp a.eval ⟨dst, .binOp .eql T x y r, ty, pos, after, gd⟩).run Try.prog w = .ok (.value (.bool (eqA n f g))) w := by
  have h1 : (eqGuard .eql T x y (.agg (ar n f)) (.agg (ar n g))).run Try.prog w = .ok () w := by
    simp [eqGuard, hg, go_sem]
  simp only [execOp, hx, hy, Sem.run_bind, h1, run_eql_ar hT, Result.andThen_ok, Sem.run_pure]
theorem gE_eqU (hT : Try.prog.underlying T = some (.array n 5)) (hg : Try.prog.eqGuardType Try.prog.depth T = false) (hx : a.eval x = .agg (ar n f)) (hy : a.eval y = .agg (ar n g)) (hR : R (.bool (eqA n f g)) w) : GivesE Try.prog ⟨dst, .binOp .eql T x y r, ty, pos, after, gd⟩ a w R := by
  unfold GivesE
  rw [exec_eqU hT hg hx hy]
  exact hR
end
section
variable {ops : Array Oper} {a : Act} {rest : List Oper} {dst : Option Tmp} {ty r : TypeId} {pos : String} {after : Array Edge} {x y : Operand} {f g : Nat → Nat} {gd : Option (Nat × Bool)} {C : World → Prop} {Qk : Act → Prop} {T : TypeId} {n : Nat}
theorem keqU (b : Bool) (hT : Try.prog.underlying T = some (.array n 5)) (hg : Try.prog.eqGuardType Try.prog.depth T = false) (hwt : Region.wanted ⟨dst, .binOp .eql T x y r, ty, pos, after, gd⟩ (yielded ops a.tmps) = true) (hx : a.eval x = .agg (ar n f)) (hy : a.eval y = .agg (ar n g)) (hb : eqA n f g = b)
    (h : wpK Try.prog ops C Qk rest (a.put dst (.bool b))) : wpK Try.prog ops C Qk (⟨dst, .binOp .eql T x y r, ty, pos, after, gd⟩ :: rest) a :=
  wpK_val hwt (fun w hw => gives_value (w' := w) (by rw [exec_eqU hT hg hx hy, hb]) hw) h
theorem kneU (b : Bool) (hT : Try.prog.underlying T = some (.array n 5)) (hg : Try.prog.eqGuardType Try.prog.depth T = false) (hwt : Region.wanted ⟨dst, .binOp .neq T x y r, ty, pos, after, gd⟩ (yielded ops a.tmps) = true) (hx : a.eval x = .agg (ar n f)) (hy : a.eval y = .agg (ar n g)) (hb : (!eqA n f g) = b)
    (h : wpK Try.prog ops C Qk rest (a.put dst (.bool b))) : wpK Try.prog ops C Qk (⟨dst, .binOp .neq T x y r, ty, pos, after, gd⟩ :: rest) a :=
  wpK_val hwt (fun w hw => gives_value (w' := w) (by
    have h1 : (eqGuard .neq T x y (.agg (ar n f)) (.agg (ar n g))).run Try.prog w = .ok () w := by
      simp [eqGuard, hg, go_sem]
    simp only [execOp, hx, hy, Sem.run_bind, h1, run_neq_ar hT, Result.andThen_ok, Sem.run_pure, hb]) hw) h
/-- A literal of one constant part, in such a region. -/
theorem kbldOne {i : Nat} {v : Value} {cs : Array Value} (hwt : Region.wanted ⟨dst, .build T #[(i, .const v)], ty, pos, after, gd⟩ (yielded ops a.tmps) = true) (hb : ∀ w, (Instr.build T #[(i, v)]).run Try.prog w = .ok (.agg cs) w)
    (h : wpK Try.prog ops C Qk rest (a.put dst (.agg cs))) : wpK Try.prog ops C Qk (⟨dst, .build T #[(i, .const v)], ty, pos, after, gd⟩ :: rest) a :=
  wpK_val hwt (fun w hw => gives_value (w' := w) (by
    have e : (#[(i, Operand.const v)] : Array (Nat × Operand)).map (fun (i, x) => (i, a.eval x)) = #[(i, v)] := by simp only [List.map_toArray, List.map_cons, List.map_nil]; rfl
    simp only [execOp, Sem.run_bind, e, hb, Result.andThen_ok, Sem.run_pure]) hw) h
/-- A literal of no part. -/
theorem kbldZ {cs : Array Value} (hwt : Region.wanted ⟨dst, .build T #[], ty, pos, after, gd⟩ (yielded ops a.tmps) = true) (hb : ∀ w, (Instr.build T #[]).run Try.prog w = .ok (.agg cs) w)
    (h : wpK Try.prog ops C Qk rest (a.put dst (.agg cs))) : wpK Try.prog ops C Qk (⟨dst, .build T #[], ty, pos, after, gd⟩ :: rest) a :=
  wpK_val hwt (fun w hw => gives_value (w' := w) (by
    have e : (#[] : Array (Nat × Operand)).map (fun (i, x) => (i, a.eval x)) = #[] := by simp
    simp only [execOp, Sem.run_bind, e, hb, Result.andThen_ok, Sem.run_pure]) hw) h
end
namespace DvP
end DvP
end Go.Proofs.Ytablkaofaedpeaa
set_option maxRecDepth 100000
namespace Go.Proofs.Ytablkaofaedpeaa
open Go.ChangeShapes Go.WideShapes Go.ChangeAt Go.RowKit
attribute [local go_sem] GivesE
/-- What is known of a value: its kind, what a world holds of it, one of the kind. -/
structure Sp where
  S : Value → Prop
  D : Value → World → Prop
  v0 : Value
structure Sp.ok (c : Sp) : Prop where
  some : c.S c.v0
  keep : ∀ v w1 w2, c.D v w1 → Below w1.heap.size w1 w2 → c.D v w2
def lkSp : List (Nat × Sp) → Nat → Option Sp
  | [], _ => none
  | (p, c) :: r, j => if j = p then some c else lkSp r j
def yS (fx : List (Option Value)) (sp : List (Nat × Sp)) (j : Nat) (v : Value) : Prop := match lkSp sp j with
  | some c => c.S v
  | none => match fx[j]? with
    | some (some u) => v = u
    | _ => True
def yV (fx : List (Option Value)) (sp : List (Nat × Sp)) (j : Nat) : Value := match lkSp sp j with
  | some c => c.v0
  | none => match fx[j]? with
    | some (some u) => u
    | _ => undef
theorem lk_mem : ∀ {sp : List (Nat × Sp)} {j : Nat} {c : Sp}, lkSp sp j = some c → ∃ p, (p, c) ∈ sp
  | [], _, _, h => by cases h
  | (p, d) :: r, j, c, h => by
    unfold lkSp at h
    split at h
    · cases h; exact ⟨p, List.mem_cons_self⟩
    · obtain ⟨q, hq⟩ := lk_mem h
      exact ⟨q, List.mem_cons_of_mem _ hq⟩
theorem yS_ok (fx : List (Option Value)) {sp : List (Nat × Sp)} (h : ∀ x ∈ sp, x.2.ok) (j : Nat) : yS fx sp j (yV fx sp j) := by
  unfold yS yV
  split
  · rename_i c hc
    obtain ⟨p, hp⟩ := lk_mem hc
    exact (h _ hp).some
  · split
    · rfl
    · trivial
def yD (sp : List (Nat × Sp)) (j : Nat) (vs : Nat → Value) (w : World) : Prop := match lkSp sp j with
  | some c => c.D (vs j) w
  | none => True
theorem yD_keep {sp : List (Nat × Sp)} (h : ∀ x ∈ sp, x.2.ok) {j : Nat} {vs : Nat → Value} {w1 w2 : World} (hd : yD sp j vs w1) (hb : Below w1.heap.size w1 w2) : yD sp j vs w2 := by
  unfold yD at hd ⊢
  split
  · rename_i c hc
    rw [hc] at hd
    obtain ⟨p, hp⟩ := lk_mem hc
    exact (h _ hp).keep _ _ _ hd hb
  · trivial
theorem yD_loc {sp : List (Nat × Sp)} {i j : Nat} {vs : Nat → Value} {v : Value} {w : World} (hji : j ≠ i) (h : yD sp j vs w) : yD sp j (updV vs i v) w := by
  unfold yD at h ⊢
  rw [updV_ne _ _ hji]
  exact h
theorem yD_some {sp : List (Nat × Sp)} {p : Nat} {c : Sp} {vs : Nat → Value} {v : Value} {w : World} (hc : lkSp sp p = some c) (h : c.D v w) : yD sp p (updV vs p v) w := by
  unfold yD
  rw [hc, updV_self]
  exact h
theorem wp_region_y {id : Nat} {Q : Exit → Act → World → Prop} {a : Act} {w : World} {l : List Oper} (fx : List (Option Value)) (sp : List (Nat × Sp)) (hsp : ∀ x ∈ sp, x.2.ok)
    (n : Nat) (hm : Try.prog.follows .mixedOrders = true) (ht : tidy l.toArray = true) (hB : tailB l.toArray n = true)
    (h : ∀ vs : Nat → Value, wpE Try.prog l.toArray (yS fx sp) (yD sp) (fun _ _ w w' => Below w.heap.size w w') (fun _ w' => Below w.heap.size w w') (fun vs a' => ∀ (d : Nat → Bool) w', (∀ k, k < n → d k = true) → Below w.heap.size w w' → (∀ k, k < n → yD sp k vs w') → wpList Try.prog l.toArray Q (l.drop n) a' w') 0 vs (l.take n) a) :
    (Code.region id l.toArray true).wp Try.prog Q a w :=
  wp_region_ex (S := yS fx sp) (D := yD sp) (K := fun _ _ w w' => Below w.heap.size w w') (C := fun _ w' => Below w.heap.size w w') n hm ht hB _ (yS_ok fx hsp) (fun i j vs w w' _ _ _ h hb => yD_keep hsp h hb)
    (fun j i vs v w hji _ h => yD_loc hji h) (Below.refl _ _).drew h
end Go.Proofs.Ytablkaofaedpeaa
set_option maxRecDepth 100000
namespace Go.Proofs.Ytablkaofaedpeaa
open Go.ChangeShapes Go.WideShapes Go.ChangeAt Go.RowKit
section
variable {α : Type} {k : Nat} {en : α → List Value} {E L : TypeId}
theorem run_lit1 (hE : EltX E k en) (hu : Try.prog.underlying L = some (.slice E)) (x : α) {v : Value} (hv : v.cells.toList = en x) (hk : k ≤ 1000) (w : World) :
    (Instr.buildSlice L 1 #[(0, v)]).run Try.prog w = .ok (.slice (some ⟨w.heap.size, 0, none⟩) 1 1) (w.alloc (.cells (en x).toArray E)) := by
  obtain ⟨ie, z, hi, hz, h1, h2, h3⟩ := hE.info
  refine run_buildSlice w L E 1 _ _ ie z hu hi hz (by rw [h1]; omega) (by rw [h1]; have := hE.pos; omega) ?_
  have hcs : v.cells.size = k := by rw [← Array.length_toList, hv, hE.len]
  have := fill_consec (place := fun i => some (i * ie.size, ie.size)) [v] [(0, k)] [] (((Array.range (1 * ie.size)).map (z.cells[· % z.cells.size]!)).toList) 0 ⟨rfl, trivial⟩ (by simp [hcs]) (by simp [h1]) (fun j hj => by
    have : j = 0 := by simp at hj; exact hj
    subst this
    simp [h1])
  simp only [List.nil_append, List.map_cons, List.map_nil, List.sum_cons, List.sum_nil, Nat.add_zero, List.flatMap_cons, List.flatMap_nil, List.append_nil, hv] at this
  rw [List.drop_eq_nil_of_le (by simp [h1]), List.append_nil, Array.toArray_toList] at this
  exact this
/-- What such a literal is. -/
theorem sli_lit1 {S : Nat → Prop} (hE : EltX E k en) (x : α) (w : World) (hS : S w.heap.size) : Sli k en S (w.alloc (.cells (en x).toArray E)) (some ⟨w.heap.size, 0, none⟩) [x] 1 1 where
  len := rfl
  cap := Nat.le_refl _
  max := by unfold maxLen; omega
  none e := by cases e
  lst _ := ⟨w.heap.size, 0, rfl, hS, by simp, fun i y hi j u hj => by
    have hb : Blk (w.alloc (.cells (en x).toArray E)) w.heap.size E (en x).toArray := Blk.new _ _ _
    cases i with
    | zero =>
      simp only [List.getElem?_cons_zero, Option.some.injEq] at hi
      subst hi
      rw [Nat.zero_add, Nat.zero_mul, Nat.zero_add, hb.cell]
      simpa using hj
    | succ i => simp at hi⟩
variable {ops : Array Oper} {Q : Exit → Act → World → Prop} {a : Act} {w : World} {rest : List Oper} {dst : Option Tmp} {ty : TypeId} {pos : String} {after : Array Edge} {o : Operand} {x : α} {v : Value}
theorem wlit1 (hE : EltX E k en) (hu : Try.prog.underlying L = some (.slice E)) (hk : k ≤ 1000) (ho : a.eval o = v) (hv : v.cells.toList = en x)
    (h : wpList Try.prog ops Q rest (a.put dst (.slice (some ⟨w.heap.size, 0, none⟩) 1 1)) (w.alloc (.cells (en x).toArray E))) :
    wpList Try.prog ops Q (⟨dst, .buildSlice L 1 #[(0, o)], ty, pos, after, none⟩ :: rest) a w := by
  have hm : (#[(0, o)] : Array (Nat × Operand)).map (fun (i, x) => (i, a.eval x)) = #[(0, v)] := by
    simp only [List.map_toArray, List.map_cons, List.map_nil, ho]
  refine wpList_plain rfl fun K hK => ?_
  unfold Oper.wp execOp
  simp only [Sem.run_bind, hm, run_lit1 hE hu x hv hk w, Result.andThen_ok, Sem.run_pure]
  exact hK _ _ h
theorem gE_lit1 {gd : Option (Nat × Bool)} {R : Value → World → Prop} (hE : EltX E k en) (hu : Try.prog.underlying L = some (.slice E)) (hk : k ≤ 1000) (ho : a.eval o = v) (hv : v.cells.toList = en x)
    (h : R (.slice (some ⟨w.heap.size, 0, none⟩) 1 1) (w.alloc (.cells (en x).toArray E))) : GivesE Try.prog ⟨dst, .buildSlice L 1 #[(0, o)], ty, pos, after, gd⟩ a w R := by
  have hm : (#[(0, o)] : Array (Nat × Operand)).map (fun (i, x) => (i, a.eval x)) = #[(0, v)] := by
    simp only [List.map_toArray, List.map_cons, List.map_nil, ho]
  unfold GivesE execOp
  simp only [Sem.run_bind, hm, run_lit1 hE hu x hv hk w, Result.andThen_ok, Sem.run_pure]
  exact h
theorem gE_slX {gd : Option (Nat × Bool)} {R : Value → World → Prop} {S : Nat → Prop} {A : Option Addr} {l : List α} {n cap i j : Nat} {x y z : Operand} (hE : EltX E k en) (hu : Try.prog.underlying L = some (.slice E)) (hel : Try.prog.elem L = E)
    (hx : a.eval x = .slice A n cap) (hy : a.eval y = .int .i64 i) (hz : a.eval z = .int .i64 j) (h : Sli k en S w A l n cap) (hij : i ≤ j) (hj : j ≤ n)
    (hR : ∀ A', Sli k en S w A' ((l.drop i).take (j - i)) (j - i) (cap - i) → R (.slice A' (j - i) (cap - i)) w) : GivesE Try.prog ⟨dst, .slice L x (some y) (some z) none, ty, pos, after, gd⟩ a w R := by
  obtain ⟨A', hr, ha⟩ := run_slX hE hu hel h hij hj
  unfold GivesE execOp
  simp only [Sem.run_bind, Option.map_some, Option.map_none, Sem.run_pure, hx, hy, hz, hr, Result.andThen_ok]
  exact hR A' ha
/-- A slice of these elements, wherever it lies in blocks of S. -/
def spX (k : Nat) (en : α → List Value) (S : Nat → Prop) (l : List α) : Sp := ⟨fun v => ∃ (A : Option Addr) (c : Nat), v = .slice A l.length c, fun v w => ∃ (A : Option Addr) (c : Nat), v = .slice A l.length c ∧ Sli k en S w A l l.length c, .slice none l.length 0⟩
theorem spX_ok (k : Nat) (en : α → List Value) (S : Nat → Prop) (l : List α) : (spX k en S l).ok := ⟨⟨none, 0, rfl⟩, fun v w1 w2 ⟨A, c, h1, h2⟩ hb => ⟨A, c, h1, h2.turn (Turn.of_new (S := fun _ => False) hb) fun _ _ _ e => e⟩⟩
end
end Go.Proofs.Ytablkaofaedpeaa
set_option maxRecDepth 100000
namespace Go.Proofs.Ytablkaofaedpeaa
open Go.ChangeShapes Go.WideShapes Go.ChangeAt Go.RowKit
section
variable {α : Type} {k : Nat} {en : α → List Value} {E L ty : TypeId} {S T : Nat → Prop} {w : World} {A B : Option Addr} {l m : List α}
theorem flat_read (hE : EltX E k en) {n c : Nat} {ad : Addr} (h : Sli k en S w (some ad) l n c) : ∀ j u, (l.flatMap en)[j]? = some u → w.cell? (ad.add j) = some u := fun j u hj => by
  have hjl := (List.getElem?_eq_some_iff.1 hj).1
  rw [flat_len hE.len] at hjl
  have hq : j / k < l.length := Nat.div_lt_of_lt_mul (by rw [Nat.mul_comm]; exact hjl)
  have h4 := flat_at hE.len l (j / k) (j % k) l[j / k] (List.getElem?_eq_getElem hq) (Nat.mod_lt _ hE.pos)
  rw [show j / k * k + j % k = j by rw [Nat.mul_comm]; exact Nat.div_add_mod j k, hj] at h4
  obtain ⟨b, o, e, _, _, hr⟩ := h.lst (Nat.lt_of_le_of_lt (Nat.zero_le _) hq)
  obtain rfl : ad = ⟨b, o, none⟩ := Option.some.inj e
  have h5 := hr (j / k) l[j / k] (List.getElem?_eq_getElem hq) (j % k) u h4.symm
  rw [Addr.add_mid]
  rwa [show o + j / k * k + j % k = o + j by have := Nat.div_add_mod j k; rw [Nat.mul_comm] at this; omega] at h5
theorem sli_new (hE : EltX E k en) (ls : List α) (zs : List Value) (n c : Nat) (hn : ls.length = n) (hnc : n ≤ c) (hc : c ≤ maxLen) (w' : World) (cs : Array Value) (hcs : cs.toList = ls.flatMap en ++ zs) :
    Sli k en (fun b => w'.heap.size ≤ b) (w'.alloc (.cells cs E)) (some ⟨w'.heap.size, 0, none⟩) ls n c where
  len := hn
  cap := hnc
  max := hc
  none e := by cases e
  lst _ := ⟨w'.heap.size, 0, rfl, Nat.le_refl _, by simp, fun i x hi j u hj => by
    have hb : Blk (w'.alloc (.cells cs E)) w'.heap.size E cs := Blk.new _ _ _
    have hjl : j < k := by have := (List.getElem?_eq_some_iff.1 hj).1; rwa [hE.len] at this
    have h1 := flat_at hE.len ls i j x hi hjl
    rw [Nat.zero_add, hb.cell, ← Array.getElem?_toList, hcs, List.getElem?_append_left (by
      have := (List.getElem?_eq_some_iff.1 hi).1
      rw [flat_len hE.len]
      have := Nat.mul_le_mul_right k (show i + 1 ≤ ls.length from this)
      rw [Nat.add_mul] at this
      omega), h1]
    exact hj⟩
theorem run_full (hE : EltX E k en) (hu : Try.prog.underlying L = some (.slice E)) {n j cB : Nat} (h : Sli k en S w A l n n) (hm : Sli k en T w B m j cB) (hj : 0 < j) (hsz : n + j ≤ 1000000) (hk : k ≤ 1000) :
    ∃ A' c' w', (Builtin.append_ #[L, L] ty #[.slice A n n, .slice B j cB]).run Try.prog w = .ok (.slice A' (n + j) c') w' ∧ Sli k en (fun b => w.heap.size ≤ b) w' A' (l ++ m) (n + j) c' ∧ Below w.heap.size w w' := by
  obtain ⟨i, z, hi, hz, h1, h2, h3⟩ := hE.info
  have hbytes : (n + j) * i.bytes ≤ 140737488355328 := Nat.le_trans (Nat.mul_le_mul hsz (Nat.le_trans h2 (show 16 * k + 16 ≤ 16016 by omega))) (by omega)
  obtain ⟨bd, rfl⟩ : ∃ bd, B = some bd := by
    cases B with
    | none => have := hm.none rfl; omega
    | some bd => exact ⟨bd, rfl⟩
  have hlm : (m.flatMap en).length = j * i.size := by rw [flat_len hE.len, hm.len, h1]
  cases A with
  | none =>
    obtain ⟨rfl, _⟩ := h.none rfl
    obtain rfl := List.eq_nil_of_length_eq_zero h.len
    have hr := run_append_nil (P := Try.prog) w L ty E i z hu hi hz bd j cB (m.flatMap en) hlm (flat_read hE hm) hj (by omega) (by rw [Nat.zero_add] at hbytes; omega)
    rw [Nat.zero_add, List.nil_append]
    exact ⟨_, _, _, hr, sli_new hE m _ j _ hm.len (grownCap_ge _ _ _ _) (grownCap_le_maxLen _ _ _ _ (by unfold maxLen; omega)) w.drew _ (by simp; rfl), (Below.refl _ _).drew.alloc (Nat.le_refl _) _⟩
  | some ad =>
    have hll : (l.flatMap en).length = n * i.size := by rw [flat_len hE.len, h.len, h1]
    have hr := run_append_grow (P := Try.prog) w L ty E i z hu hi hz ad n n (l.flatMap en) hll (flat_read hE h) bd j cB (m.flatMap en) hlm (flat_read hE hm) (by omega) (by omega) (growslice_fits (by omega) hbytes)
    refine ⟨_, _, _, hr, sli_new hE (l ++ m) _ (n + j) _ (by rw [List.length_append, h.len, hm.len]) (grownCap_ge _ _ _ _) (grownCap_le_maxLen _ _ _ _ (by unfold maxLen; omega)) w.drew _ (by simp [List.flatMap_append]; rfl), (Below.refl _ _).drew.alloc (Nat.le_refl _) _⟩
variable {a : Act} {dst : Option Tmp} {pos : String} {after : Array Edge} {gd : Option (Nat × Bool)} {R : Value → World → Prop} {o1 o2 : Operand}
theorem gE_full (hE : EltX E k en) (hu : Try.prog.underlying L = some (.slice E)) {n j cB : Nat} (hx : a.eval o1 = .slice A n n) (hy : a.eval o2 = .slice B j cB) (h : Sli k en S w A l n n) (hm : Sli k en T w B m j cB) (hj : 0 < j) (hsz : n + j ≤ 1000000) (hk : k ≤ 1000)
    (hR : ∀ A' c' w', Sli k en (fun b => w.heap.size ≤ b) w' A' (l ++ m) (n + j) c' → Below w.heap.size w w' → R (.slice A' (n + j) c') w') :
    GivesE Try.prog ⟨dst, .call { callee := .builtin .append, args := #[o1, o2], argTypes := #[L, L] }, ty, pos, after, gd⟩ a w R := by
  obtain ⟨A', c', w', hr, h1, h2⟩ := run_full (ty := ty) hE hu h hm hj hsz hk
  unfold GivesE execOp
  simp only [resolve, invoke, builtin, Sem.run_bind, Sem.run_pure, Result.andThen_ok, List.map_toArray, List.map_cons, List.map_nil, hx, hy, hr]
  exact hR A' c' w' h1 h2
end
end Go.Proofs.Ytablkaofaedpeaa
set_option maxRecDepth 100000
namespace Go.Proofs.Ytablkaofaedpeaa
open Go.RowKit
section
variable {P : Program} {ops : Array Oper}
/-- The operations in the order of the text, the k-th first. -/
def wpC (P : Program) (ops : Array Oper) (S : Nat → Value → Prop) (C : (Nat → Bool) → (Nat → Value) → World → Prop) (Q : (Nat → Value) → Act → Prop) : Nat → (Nat → Value) → List Oper → Act → Prop
  | _, vs, [], a => Q vs a
  | k, vs, o :: rest, a => ((Region.wanted o (yielded ops a.tmps) = true ∧ ∀ d w, d k = false → (∀ j, Region.waitsFor .any ops j k = true → d j = false) → (∀ j, Region.waitsFor .any ops k j = true → d j = true) → C d vs w →
      GivesE P o a w fun v w' => S k v ∧ C (upB d k) (updV vs k v) w') ∨
      (Region.wanted o (yielded ops a.tmps) = false ∧ S k undef ∧ (∀ d w, C d vs w → C (upB d k) (updV vs k undef) w))) ∧ (S k (vs k) → wpC P ops S C Q (k + 1) vs rest (a.put o.dst (vs k)))
theorem wpC_at {S : Nat → Value → Prop} {C : (Nat → Bool) → (Nat → Value) → World → Prop} {Qk : (Nat → Value) → Act → Prop} {vs : Nat → Value} (hS : ∀ j, S j (vs j)) : ∀ (l : List Oper) (k : Nat) (a : Act), wpC P ops S C Qk k vs l a →
    Qk vs (lexF l (fun i => vs (k + i)) l.length a) ∧ ∀ i o, l[i]? = some o →
      ((Region.wanted o (yielded ops (lexF l (fun i => vs (k + i)) i a).tmps) = true ∧ ∀ d w, d (k + i) = false → (∀ j, Region.waitsFor .any ops j (k + i) = true → d j = false) → (∀ j, Region.waitsFor .any ops (k + i) j = true → d j = true) → C d vs w →
        GivesE P o (lexF l (fun i => vs (k + i)) i a) w fun v w' => S (k + i) v ∧ C (upB d (k + i)) (updV vs (k + i) v) w') ∨
      (Region.wanted o (yielded ops (lexF l (fun i => vs (k + i)) i a).tmps) = false ∧ S (k + i) undef ∧ (∀ d w, C d vs w → C (upB d (k + i)) (updV vs (k + i) undef) w)))
  | [], k, a, h => ⟨h, fun i o hi => by simp at hi⟩
  | o :: l, k, a, h => by
    obtain ⟨h1, h2⟩ := h
    obtain ⟨hq, hs⟩ := wpC_at hS l (k + 1) _ (h2 (hS k))
    have e : (fun i => vs (k + 1 + i)) = fun i => vs (k + (i + 1)) := funext fun i => by rw [show k + 1 + i = k + (i + 1) by omega]
    rw [e] at hq hs
    refine ⟨?_, fun i o' hi => ?_⟩
    · rw [List.length_cons, lexF_cons]; exact hq
    · cases i with
      | zero =>
        simp only [List.getElem?_cons_zero, Option.some.injEq] at hi
        subst hi
        exact h1
      | succ i =>
        rw [lexF_cons, show k + (i + 1) = k + 1 + i by omega]
        exact hs i o' (by simpa using hi)
theorem wp_region_c {id : Nat} {Q : Exit → Act → World → Prop} {C : (Nat → Bool) → (Nat → Value) → World → Prop} {S : Nat → Value → Prop} {a : Act} {w : World} {l : List Oper} (n : Nat)
    (hm : P.follows .mixedOrders = true) (ht : tidy l.toArray = true) (hB : tailB l.toArray n = true)
    (v0 : Nat → Value) (h0 : ∀ j, S j (v0 j)) (hC : C (fun _ => false) v0 w.drew)
    (h : ∀ vs : Nat → Value, wpC P l.toArray S C (fun vs a' => ∀ d w', (∀ k, k < n → d k = true) → C d vs w' → wpList P l.toArray Q (l.drop n) a' w') 0 vs (l.take n) a) : (Code.region id l.toArray true).wp P Q a w := by
  refine region_coreE (Γ := {vs : Nat → Value // ∀ j, S j (vs j)}) (C := fun γ L w' => C (fun j => L.getD j false) γ.1 w' ∧ Closed l.toArray L) n hm ht hB ⟨v0, h0⟩
    ⟨by rw [show (fun j => (Array.replicate l.length false).getD j false) = fun _ => false from funext fun j => getD_replicate_false _ j]; exact hC, (fun j o _ hl => by rw [getD_replicate_false] at hl; cases hl)⟩ (fun γ => γ.1) ?_ ?_
  · intro i o hi γ L w' hsz hr ⟨hC', hcl⟩
    have hun := getD_both (mem_ready.1 hr).1
    have hlt : i < L.size := by
      obtain ⟨o', ho', _⟩ := (mem_ready.1 hr).2
      have := (Array.getElem?_eq_some_iff.1 ho').1
      simp at this; omega
    have hup : (fun j => (L.setIfInBounds i true).getD j false) = upB (fun j => L.getD j false) i := funext fun j => by
      unfold upB
      by_cases e : j = i
      · subst e; rw [if_pos rfl]; simp [hlt]
      · rw [if_neg e, getD_set_ne false (Ne.symm e)]
    have hcl2 := closed_set hcl hr
    have key := (wpC_at γ.2 (l.take n) 0 a (h γ.1)).2 i o hi
    simp only [Nat.zero_add] at key
    have hwait : ∀ j, Region.waitsFor .any l.toArray i j = true → L.getD j false = true := fun j hj => waits_ready hr hj
    have hnext : ∀ j, Region.waitsFor .any l.toArray j i = true → L.getD j false = false := fun j hj => by
      cases hx : L.getD j false with
      | false => rfl
      | true =>
        have := waits_closed hcl hx hj
        rw [hun] at this
        cases this
    have upd : ∀ v, S i v → ∀ j, S j (updV γ.1 i v j) := fun v hv j => by
      by_cases e : j = i
      · subst e; rw [updV_self]; exact hv
      · rw [updV_ne _ _ e]; exact γ.2 j
    have keep : ∀ v j, L.getD j false = true → γ.1 j = updV γ.1 i v j := fun v j hj => by
      have : j ≠ i := fun e => by subst e; rw [hun] at hj; cases hj
      rw [updV_ne _ _ this]
    rcases key with ⟨k1, k2⟩ | ⟨k1, k2, k3⟩
    · refine .inl ⟨k1, givesE_mono (k2 _ w' hun hnext hwait hC') fun v w2 ⟨h1, h2⟩ => ⟨⟨updV γ.1 i v, upd v h1⟩, keep v, updV_self _ _ _, ?_, hcl2⟩⟩
      rw [hup]; exact h2
    · refine .inr ⟨k1, ⟨updV γ.1 i undef, upd undef k2⟩, keep undef, updV_self _ _ _, ?_, hcl2⟩
      rw [hup]; exact k3 _ _ hC'
  · intro γ L w' hall ⟨hC', _⟩
    have key := (wpC_at γ.2 (l.take n) 0 a (h γ.1)).1
    have ez : (fun i => γ.1 (0 + i)) = γ.1 := funext fun i => by rw [Nat.zero_add]
    rw [ez] at key
    exact key _ w' hall hC'
end
open Go.ChangeShapes Go.WideShapes Go.ChangeAt
/-- A slice of so many elements. -/
def kSl (m : Nat) : Sp := ⟨fun v => ∃ (A : Option Addr) (c : Nat), v = .slice A m c, fun _ _ => True, .slice none m 0⟩
theorem kSl_ok (m : Nat) : (kSl m).ok := ⟨⟨none, 0, rfl⟩, fun _ _ _ _ _ => trivial⟩
/-- A map. -/
def kMp : Sp := ⟨fun v => ∃ r : Nat, v = .map (some r), fun _ _ => True, .map (some 0)⟩
theorem kMp_ok : kMp.ok := ⟨⟨0, rfl⟩, fun _ _ _ _ _ => trivial⟩
section
variable {α : Type} {k : Nat} {en : α → List Value} {E L : TypeId} {S : Nat → Prop} {w : World} {a : Act} {dst : Option Tmp} {ty : TypeId} {pos : String} {after : Array Edge} {gd : Option (Nat × Bool)} {R : Value → World → Prop} {o1 o2 : Operand} {v : Value} {l m : List α} {A : Option Addr} {n cap B : Nat}
/-- An append's result lies where the slice lay, or anew. -/
theorem run_appX_where (hE : EltX E k en) (hu : Try.prog.underlying L = some (.slice E)) (hown : OwnX E k en w B v l) (hm : Sli k en S w A m n cap) (hsz : l.length + n ≤ 1000000) (hk : k ≤ 1000) {v' : Value} {w' : World}
    (hr : (Builtin.append_ #[L, L] ty #[v, .slice A n cap]).run Try.prog w = .ok v' w') : v'.ownBlock = v.ownBlock ∨ v'.ownBlock = some w.heap.size := by
  obtain ⟨i, z, hi, hz, h1, h2, h3⟩ := hE.info
  cases A with
  | none =>
    obtain ⟨rfl, rfl⟩ := hm.none rfl
    rw [run_append_owned_none (P := Try.prog) w B L ty E i k hu hi v l.length _ hown] at hr
    cases hr
    exact .inl rfl
  | some ad =>
    have hbytes : (l.length + n) * i.bytes ≤ 140737488355328 := Nat.le_trans (Nat.mul_le_mul hsz (Nat.le_trans h2 (show 16 * k + 16 ≤ 16016 by omega))) (by omega)
    have hl1 : (m.flatMap en).length = n * i.size := by rw [flat_len hE.len, hm.len, h1]
    have hne := flat_read hE hm
    have hone : ∀ u ∈ m.flatMap en, u.oneCell' = true := fun u hu => by obtain ⟨x, _, hx⟩ := List.mem_flatMap.1 hu; exact hE.one x u hx
    rcases hown.2 with ⟨rfl, h0⟩ | ⟨g, c, cur, rfl, hB, hg, hnc, hcm, hcs, ht⟩
    · by_cases hn0 : n = 0
      · subst hn0
        have hn : m = [] := List.eq_nil_of_length_eq_zero hm.len
        subst hn
        left
        have hrun : (Builtin.append_ #[L, L] ty #[.slice none 0 0, .slice (some ad) 0 cap]).run Try.prog w = .ok (.slice none 0 0) w := by
          simp [Builtin.append_, run_underlying hu, sizeOf, typeInfo, hi, Builtin.lenOf, Builtin.firstCells, loadCells, loadCellsFrom]
        rw [hrun] at hr
        cases hr
        rfl
      · right
        rw [h0, Nat.zero_add] at hbytes
        have hrun := run_append_nil (P := Try.prog) w L ty E i z hu hi hz ad n cap _ hl1 hne (by omega) (by omega) (by omega)
        rw [hrun] at hr
        cases hr
        rfl
    · by_cases hroom : l.length + n ≤ c
      · left
        have hrun := run_append_room (P := Try.prog) w L ty E i hu hi g l.length c cur hg ad n cap _ hl1 hne hone hroom (by
          rw [h1, flat_len hE.len, hm.len, hcs, ← Nat.add_mul]; exact Nat.mul_le_mul_right k hroom)
        rw [hrun] at hr
        cases hr
        rfl
      · right
        have hown' : w.ownsRow B E i.size (.slice (some ⟨g, 0, none⟩) l.length c) l.length (l.flatMap en) := by rw [h1]; exact hown
        have holds : ∀ j u, (l.flatMap en)[j]? = some u → w.cell? ((⟨g, 0, none⟩ : Addr).add j) = some u := hown'.cells (g := g) rfl
        have hrun := run_append_grow (P := Try.prog) w L ty E i z hu hi hz ⟨g, 0, none⟩ l.length c (l.flatMap en) (by rw [flat_len hE.len, h1]) holds ad n cap _ hl1 hne (by omega) (by omega) (growslice_fits (by omega) hbytes)
        rw [hrun] at hr
        cases hr
        rfl
theorem gE_appW (hE : EltX E k en) (hu : Try.prog.underlying L = some (.slice E)) (hx : a.eval o1 = v) (hy : a.eval o2 = .slice A n cap) (hown : OwnX E k en w B v l) (hm : Sli k en S w A m n cap) (hsz : l.length + n ≤ 1000000) (hk : k ≤ 1000) (hB : B ≤ w.heap.size)
    (hR : ∀ v' w', OwnX E k en w' B v' (l ++ m) → w.grownBy w' v.ownBlock → (v'.ownBlock = v.ownBlock ∨ v'.ownBlock = some w.heap.size) → R v' w') :
    GivesE Try.prog ⟨dst, .call { callee := .builtin .append, args := #[o1, o2], argTypes := #[L, L] }, ty, pos, after, gd⟩ a w R := by
  obtain ⟨v', w', hr, h1, h2⟩ := run_appX (ty := ty) hE hu hown hm hsz hk hB
  have h3 := run_appX_where hE hu hown hm hsz hk hr
  unfold GivesE execOp
  simp only [resolve, invoke, builtin, Sem.run_bind, Sem.run_pure, Result.andThen_ok, List.map_toArray, List.map_cons, List.map_nil, hx, hy, hr]
  exact hR v' w' h1 h2 h3
end
/-- What holds in the midst of an append of one element to a slice of the member's own. -/
structure ApC {α : Type} (E : TypeId) (k : Nat) (en : α → List Value) (w0 : World) (vl : Value) (l : List α) (x : α) (d8 d9 : Bool) (v8 v9 : Value) (w' : World) : Prop where
  t : Turn (fun b => vl.ownBlock = some b) w0 w'
  b : d9 = false → Below w0.heap.size w0 w'
  lit : d8 = true → d9 = false → ∃ A c, v8 = .slice A 1 c ∧ Sli k en (fun b => w0.heap.size ≤ b) w' A [x] 1 c
  own : d9 = true → OwnX E k en w' 0 v9 (l ++ [x]) ∧ ∀ b, v9.ownBlock = some b → vl.ownBlock = some b ∨ w0.heap.size ≤ b
end Go.Proofs.Ytablkaofaedpeaa
set_option maxRecDepth 100000
namespace Go.Proofs.Ytablkaofaedpeaa
open Go.RowKit
section
variable {P : Program} {ops : Array Oper}
theorem wp_region_new1 {id : Nat} {Q : Exit → Act → World → Prop} {C : World → Prop} {a : Act} {w : World} {l : List Oper} (n : Nat) (T : TypeId) (z : Array Value) (d1 : Tmp) {t1 : TypeId} {p1 : String} {e1 : Array Edge}
    (hl1 : l[n]? = some ⟨some d1, .alloc T, t1, p1, e1, none⟩)
    (hm : P.follows .mixedOrders = true) (ht : tidy l.toArray = true) (hB : tailB l.toArray (n + 1) = true)
    (ha : ∀ w, (Instr.alloc T true (.tuple #[])).run P w = .ok (.pointer (some ⟨w.heap.size, 0, none⟩)) (w.alloc (.cells z T)))
    (hC : C w.drew) (hCa : ∀ w, C w → C (w.alloc (.cells z T))) (hCs : ∀ w', C w' → w.heap.size ≤ w'.heap.size)
    (h : wpB P l.toArray C (fun a' => ∀ b1 w', C w' → Blk w' b1 T z → w.heap.size ≤ b1 →
      wpList P l.toArray Q (l.drop (n + 1)) (a'.put (some d1) (ptr b1)) w') (l.take n) a) : (Code.region id l.toArray true).wp P Q a w := by
  obtain ⟨vals, hq, hs⟩ := wpB_vals _ _ h
  have hln : n < l.length := (List.getElem?_eq_some_iff.1 hl1).1
  have hlen : (l.take n).length = n := by rw [List.length_take]; omega
  let V : Nat → Nat → Value := fun γ i => if i = n then ptr γ else vals i
  have hV : ∀ γ i, i < n → V γ i = vals i := fun γ i hi => by show (if _ then _ else _) = _; rw [if_neg (by omega)]
  have hfr : ∀ γ i, i ≤ n → lexF (l.take (n + 1)) (V γ) i a = lexF (l.take n) vals i a := fun γ i hi => lexF_congr fun j hj =>
    ⟨by rw [List.getElem?_take_of_lt (by omega), List.getElem?_take_of_lt (by omega)], hV γ j (by omega)⟩
  refine region_core (Γ := Nat) (C := fun γ L w' => C w' ∧ (L.getD n false = true → Blk w' γ T z ∧ w.heap.size ≤ γ)) (n + 1) hm ht hB 0
    ⟨hC, (fun h => by rw [getD_replicate_false] at h; cases h)⟩ V ?_ ?_
  · intro i o hi γ L w' hsz hr ⟨hC', g1⟩
    have hilt : i < n + 1 := by
      have := (List.getElem?_eq_some_iff.1 hi).1
      rw [List.length_take] at this; omega
    rw [List.getElem?_take_of_lt hilt] at hi
    have hun := getD_both (mem_ready.1 hr).1
    rcases Nat.lt_or_ge i n with hin | hin
    · have hset : ∀ k, k ≠ i → (L.setIfInBounds i true).getD k false = L.getD k false := fun k hk => getD_set_ne false (Ne.symm hk)
      refine ⟨γ, fun _ _ => rfl, ?_⟩
      rw [hfr γ i (by omega), hV γ i hin]
      simp only [hset n (by omega)]
      rcases hs i o (by rw [List.getElem?_take_of_lt hin]; exact hi) with ⟨h1, h2⟩ | ⟨h1, h2⟩
      · exact .inl ⟨h1, gives_mono (h2 w' hC') fun w'' ⟨h3, h4⟩ => ⟨h3, fun e => ⟨(g1 e).1.below h4 (g1 e).1.lt, (g1 e).2⟩⟩⟩
      · exact .inr ⟨h1, h2, hC', g1⟩
    · obtain rfl : i = n := by omega
      obtain rfl : _ = o := Option.some.inj (hl1.symm.trans hi)
      have hw : ∀ b : Act, (execOp b.eval ⟨some d1, .alloc T, t1, p1, e1, none⟩).run P w' = .ok (.value (.pointer (some ⟨w'.heap.size, 0, none⟩))) (w'.alloc (.cells z T)) := fun b => by
        simp only [execOp, Sem.run_bind, ha w', Result.andThen_ok, Sem.run_pure]
      refine ⟨w'.heap.size, fun j hj => ?_, .inl ⟨rfl, ?_⟩⟩
      · have hjn : j ≠ i := fun e => by subst e; rw [hun] at hj; cases hj
        simp only [V, if_neg hjn]
      · refine gives_value (w' := w'.alloc (.cells z T)) ?_ ?_
        · rw [hw]
          simp only [V, if_pos]; rfl
        · exact ⟨hCa _ hC', fun _ => ⟨Blk.new _ _ _, hCs _ hC'⟩⟩
  · intro γ L w' hall ⟨hC', g1⟩
    have h1 := hall n (by omega)
    have hl2' : (l.take (n + 1)).length = n + 1 := by rw [List.length_take]; omega
    rw [hl2']
    have hput : lexF (l.take (n + 1)) (V γ) (n + 1) a = (lexF (l.take n) vals n a).put (some d1) (ptr γ) := by
      rw [lexF, hfr γ n (Nat.le_refl n), List.getElem?_take_of_lt (by omega), hl1]
      simp only [V, if_pos, Option.bind_some]
    rw [hput]
    rw [hlen] at hq
    exact hq γ w' hC' (g1 h1).1 (g1 h1).2
end
end Go.Proofs.Ytablkaofaedpeaa
set_option maxRecDepth 100000
namespace Go.Proofs.Ytablkaofaedpeaa
open Go.ChangeShapes Go.WideShapes Go.ChangeAt Go.RowKit
section
variable {ops : Array Oper} {a : Act} {rest : List Oper} {dst : Option Tmp} {ty : TypeId} {pos : String} {after : Array Edge} {x : Operand} {g o n : Nat} {f : Nat → Nat} {T : TypeId} {C : World → Prop} {Qk : Act → Prop} {gd : Option (Nat × Bool)}
theorem bldA (hT : ArT T n) (hwt : Region.wanted ⟨dst, .load T x, ty, pos, after, gd⟩ (yielded ops a.tmps) = true) (hx : a.eval x = .pointer (some ⟨g, o, none⟩)) (hb : ∀ w, C w → w.rangeAt g o (ar n f).toList) (h : wpB Try.prog ops C Qk rest (a.put dst (.agg (ar n f)))) :
    wpB Try.prog ops C Qk (⟨dst, .load T x, ty, pos, after, gd⟩ :: rest) a :=
  wpB_val hwt (fun w hw => gives_value (w' := w) (by simp only [execOp, hx, Sem.run_bind, run_ldm hT (hb w hw), Result.andThen_ok, Sem.run_pure]) ⟨hw, Below.refl _ _⟩) h
end
end Go.Proofs.Ytablkaofaedpeaa
set_option maxRecDepth 100000
namespace Go.Proofs.Ytablkaofaedpeaa
open Go.ChangeShapes Go.WideShapes Go.ChangeAt Go.RowKit
attribute [local go_sem] Gives
/-- A type of n cells, one behind the other. -/
structure RowT (T : TypeId) (n : Nat) : Prop where
  size : (Try.prog.info? T).map (·.size) = some n
  desc : ∃ d, Try.prog.underlying T = some d ∧ d.isRow = true
section
variable {ops : Array Oper} {Q : Exit → Act → World → Prop} {a : Act} {w : World} {rest : List Oper} {dst : Option Tmp} {ty : TypeId} {pos : String} {after : Array Edge} {x y : Operand} {g o n : Nat} {cs : Array Value} {T : TypeId} {C : World → Prop} {Qk : Act → Prop} {gd : Option (Nat × Bool)}
theorem run_ldR (hT : RowT T cs.size) (hb : w.rangeAt g o cs.toList) : (Instr.loadAt T (.pointer (some ⟨g, o, none⟩))).run Try.prog w = .ok (.agg cs) w := by
  obtain ⟨d, h1, h2⟩ := hT.desc
  have := run_loadAt_mid (P := Try.prog) w g o T cs.toList _ hb h1 h2 (hT.size.trans (by rw [Array.length_toList]))
  rwa [Array.toArray_toList] at this
theorem Blk.whole {t : TypeId} (h : Blk w g t cs) : w.rangeAt g 0 cs.toList := fun j v hj => by
  rw [Nat.zero_add, h.cell]; rwa [Array.getElem?_toList] at hj
theorem ldR (hT : RowT T cs.size) (hx : a.eval x = .pointer (some ⟨g, o, none⟩)) (hb : w.rangeAt g o cs.toList) (h : wpList Try.prog ops Q rest (a.put dst (.agg cs)) w) :
    wpList Try.prog ops Q (⟨dst, .load T x, ty, pos, after, none⟩ :: rest) a w := by
  obtain ⟨d, h1, h2⟩ := hT.desc
  exact step_load_mid hb h1 h2 (hT.size.trans (by rw [Array.length_toList])) hx (by rw [Array.toArray_toList]; exact h)
theorem stR {t : TypeId} {old : Array Value} (hT : RowT T cs.size) (hx : a.eval x = .pointer (some ⟨g, 0, none⟩)) (hy : a.eval y = .agg cs) (hb : Blk w g t old) (hs : old.size = cs.size) (h1 : cs.all (·.oneCell') = true) (h : wpList Try.prog ops Q rest (a.put dst undef) (w.setRow g cs)) :
    wpList Try.prog ops Q (⟨dst, .store T x y, ty, pos, after, none⟩ :: rest) a w :=
  step_store_row hb hT.size hs h1 hx hy h
theorem kldR (hT : RowT T cs.size) (hwt : Region.wanted ⟨dst, .load T x, ty, pos, after, gd⟩ (yielded ops a.tmps) = true) (hx : a.eval x = .pointer (some ⟨g, o, none⟩)) (hb : ∀ w, C w → w.rangeAt g o cs.toList) (h : wpK Try.prog ops C Qk rest (a.put dst (.agg cs))) :
    wpK Try.prog ops C Qk (⟨dst, .load T x, ty, pos, after, gd⟩ :: rest) a :=
  wpK_val hwt (fun w hw => gives_value (w' := w) (by simp only [execOp, hx, Sem.run_bind, run_ldR hT (hb w hw), Result.andThen_ok, Sem.run_pure]) hw) h
theorem bldR (hT : RowT T cs.size) (hwt : Region.wanted ⟨dst, .load T x, ty, pos, after, gd⟩ (yielded ops a.tmps) = true) (hx : a.eval x = .pointer (some ⟨g, o, none⟩)) (hb : ∀ w, C w → w.rangeAt g o cs.toList) (h : wpB Try.prog ops C Qk rest (a.put dst (.agg cs))) :
    wpB Try.prog ops C Qk (⟨dst, .load T x, ty, pos, after, gd⟩ :: rest) a :=
  wpB_val hwt (fun w hw => gives_value (w' := w) (by simp only [execOp, hx, Sem.run_bind, run_ldR hT (hb w hw), Result.andThen_ok, Sem.run_pure]) ⟨hw, Below.refl _ _⟩) h
end
end Go.Proofs.Ytablkaofaedpeaa
set_option maxRecDepth 100000
namespace Go.Proofs.Ytablkaofaedpeaa
open Go.ChangeShapes Go.WideShapes Go.ChangeAt Go.RowKit
section
variable {ops : Array Oper} {Q : Exit → Act → World → Prop} {a : Act} {w : World} {rest : List Oper} {dst : Option Tmp} {ty : TypeId} {pos : String} {after : Array Edge} {n : Nat} {f : Nat → Nat} {T : TypeId}
theorem bldZr (hz : Try.prog.built T [] = some (ar n fun _ => 0)) (hk : wpList Try.prog ops Q rest (a.put dst (.agg (ar n fun _ => 0))) w) :
    wpList Try.prog ops Q (⟨dst, .build T #[], ty, pos, after, none⟩ :: rest) a w := by
  have hr : (Instr.build T #[]).run Try.prog w = .ok (.agg (ar n fun _ => 0)) w := run_build w _ _ _ hz
  refine wpList_plain rfl fun K hK => ?_
  unfold Oper.wp execOp
  simp [hr, Result.andThen]
  exact hK _ _ hk
theorem retA {t : TypeId} {h : Nat} {fn : Func} {R : Ending → World → Prop} {p q : Tmp} {v : Value} (hT : ArT T n) (hr : fn.results = #[.cell p T, .tmp q]) (hp : a.tmps.getD p undef = .pointer (some ⟨h, 0, none⟩)) (hq : a.tmps.getD q undef = v)
    (hdf : a.defers = []) (hb : Blk w h t (ar n f)) (hR : R (.returned (.tuple #[.agg (ar n f), v])) w) : bodyPost Try.prog fn R .ret a w := by
  refine bodyPost_ret ?_ hdf hR
  have hp' : a.tmps[p]?.getD undef = .pointer (some ⟨h, 0, none⟩) := by simpa using hp
  have hq' : a.tmps[q]?.getD undef = v := by simpa using hq
  simp [results, hr, hp', hq', asAddr, run_ar_var hT hb]
theorem bldOneL {T : TypeId} {parts : Array (Nat × Operand)} {cs : Array Value} (hb : ∀ w, (Instr.build T (parts.map fun (i, x) => (i, a.eval x))).run Try.prog w = .ok (.agg cs) w) (h : wpList Try.prog ops Q rest (a.put dst (.agg cs)) w) :
    wpList Try.prog ops Q (⟨dst, .build T parts, ty, pos, after, none⟩ :: rest) a w := by
  refine wpList_plain rfl fun K hK => ?_
  unfold Oper.wp execOp
  simp only [Sem.run_bind, hb, Result.andThen_ok, Sem.run_pure]
  exact hK _ _ h
theorem map_oneC (i : Nat) (v : Value) (a : Act) : (#[(i, Operand.const v)] : Array (Nat × Operand)).map (fun (i, x) => (i, a.eval x)) = #[(i, v)] := by
  simp only [List.map_toArray, List.map_cons, List.map_nil]; rfl
theorem run_st_ar {g : Nat} {t : TypeId} {f0 : Nat → Nat} (hT : ArT T n) (hb : Blk w g t (ar n f0)) (F : Nat → Nat) : (Instr.storeAt T (.pointer (some ⟨g, 0, none⟩)) (.agg (ar n F))).run Try.prog w = .ok () (w.setRow g (ar n F)) := by
  have h1 := run_storeVar_row (P := Try.prog) w g t T (ar n f0) (ar n F) hb (hT.size.trans (by rw [size_ar])) (by rw [size_ar, size_ar]) ar_one
  simp only [Instr.storeAt, Instr.sureAddr, Sem.run_bind, h1, Result.andThen_ok, Sem.run_pure]
/-- A row stored into a greater one. -/
theorem stArM {t : TypeId} {g o N m : Nat} {h : Nat → Nat} {x y : Operand} (hT : ArT T m) (hx : a.eval x = .pointer (some ⟨g, o, none⟩)) (hy : a.eval y = .agg (ar m h)) (hb : Blk w g t (ar N f)) (hm : o + m ≤ N)
    (hk : wpList Try.prog ops Q rest (a.put dst undef) (w.setCells g o (ar m h).toList)) : wpList Try.prog ops Q (⟨dst, .store T x y, ty, pos, after, none⟩ :: rest) a w :=
  wpList_store_mid rfl T x y rfl g o (ar m h) hx hy (by rw [size_ar]; exact hb.there hm) (hT.size.trans (by rw [size_ar])) ar_one hk
/-- A literal of one constant part. -/
theorem bldOne {T : TypeId} {i : Nat} {v : Value} {cs : Array Value} (hb : ∀ w, (Instr.build T #[(i, v)]).run Try.prog w = .ok (.agg cs) w) (h : wpList Try.prog ops Q rest (a.put dst (.agg cs)) w) :
    wpList Try.prog ops Q (⟨dst, .build T #[(i, .const v)], ty, pos, after, none⟩ :: rest) a w := bldOneL (fun w => by rw [map_oneC]; exact hb w) h
end
end Go.Proofs.Ytablkaofaedpeaa
set_option maxRecDepth 100000
namespace Go.Proofs.Ytablkaofaedpeaa
open Go.ChangeShapes Go.WideShapes Go.ChangeAt Go.RowKit
section
variable {T : TypeId} {m N o : Nat} {F G : Nat → Nat}
theorem run_part_ar (hT : ArT T m) (h : o + m ≤ N) (w : World) : (part T (ar N F) o).run Try.prog w = .ok (.agg (ar m fun i => F (o + i))) w := by
  obtain ⟨d, h1, h2⟩ := hT.desc
  have hagg : (isAgg T).run Try.prog w = .ok true w := by
    unfold isAgg
    rw [Sem.run_bind, run_underlying h1 w]
    cases d <;> simp_all
  simp [part, Sem.run_bind, hagg, size_of hT w, extract_ar h]
theorem eqf_nil (d : Nat) (w : World) : (Op.eqFields d (ar N F) (ar N G) []).run Try.prog w = .ok true w := by simp [Op.eqFields]
theorem eqf_cons {d : Nat} {f : Field} {fs : List Field} (hn : f.name ≠ "_") (hT : ArT f.type m) (hu : Try.prog.underlying f.type = some (.array m 5)) (ho : f.offset = o) (h : o + m ≤ N) (w : World) :
    (Op.eqFields (d + 2) (ar N F) (ar N G) (f :: fs)).run Try.prog w = if eqA m (fun i => F (o + i)) (fun i => G (o + i)) = true then (Op.eqFields (d + 2) (ar N F) (ar N G) fs).run Try.prog w else .ok false w := by
  have he := run_equalIn_row (P := Try.prog) (d := d) (t := f.type) (e := 5) (k := .u8) (n := m) (f := fun k => ((F (o + k) : Nat) : Int)) (g := fun k => ((G (o + k) : Nat) : Int)) hu Try.underlying5 (by kernel_rfl) w
  have he' : (Op.equalIn (d + 2) f.type (.agg (ar m fun i => F (o + i))) (.agg (ar m fun i => G (o + i)))).run Try.prog w = .ok (eqA m (fun i => F (o + i)) fun i => G (o + i)) w := he
  rw [Op.eqFields, if_pos hn]
  simp only [Sem.run_bind, ho, run_part_ar hT h w, Result.andThen_ok, he']
  cases eqA m (fun i => F (o + i)) fun i => G (o + i) <;> simp
end
theorem list_two {α β : Type} {φ : α → β} {l : List α} {a b : β} (h : l.map φ = [a, b]) : ∃ x y, l = [x, y] ∧ φ x = a ∧ φ y = b := by
  match l, h with
  | [x, y], h => simp only [List.map_cons, List.map_nil, List.cons.injEq, and_true] at h; exact ⟨x, y, rfl, h.1, h.2⟩
theorem list_three {α β : Type} {φ : α → β} {l : List α} {a b c : β} (h : l.map φ = [a, b, c]) : ∃ x y z, l = [x, y, z] ∧ φ x = a ∧ φ y = b ∧ φ z = c := by
  match l, h with
  | [x, y, z], h => simp only [List.map_cons, List.map_nil, List.cons.injEq, and_true] at h; exact ⟨x, y, z, rfl, h.1, h.2.1, h.2.2⟩
end Go.Proofs.Ytablkaofaedpeaa
set_option maxRecDepth 100000
namespace Go.Proofs.Ytablkaofaedpeaa
open Go.ChangeShapes Go.WideShapes Go.ChangeAt Go.RowKit
attribute [local go_sem] Gives GivesE
namespace ClP
theorem tTg : ArT 41 32 := ⟨by kernel_rfl, ⟨_, Try.underlying41, rfl⟩, (zero_of_info (P := Try.prog) (t := 41) (v := .agg (ar 32 fun _ => 0)) (n := 32) (by kernel_rfl)).1⟩
theorem uTg : Try.prog.underlying 41 = some (.array 32 5) := Try.underlying41
theorem gTg : Try.prog.eqGuardType Try.prog.depth 41 = false := by kernel_rfl
theorem gCe : Try.prog.eqGuardType Try.prog.depth 43 = false := by kernel_rfl
/-- A count and a label. -/
abbrev Held := Nat × (Nat → Nat)
def zero : Nat → Nat := fun _ => 0
def ceL (h : Held) : List Value := .int .u64 (h.1 : Nat) :: (ar 32 h.2).toList
theorem ceL_len (h : Held) : (ceL h).length = 33 := by unfold ceL; rw [List.length_cons, Array.length_toList, size_ar]
theorem eltCe : EltX 43 33 ceL where
  pos := by omega
  len := ceL_len
  one p u hu := by
    unfold ceL at hu
    rcases List.mem_cons.1 hu with rfl | hu
    · rfl
    · have := Array.all_eq_true_iff_forall_mem.1 (row_one (n := 32) (f := fun j => Value.int .u8 (p.2 j : Nat)) fun _ _ => rfl) u (by simpa [ar] using hu)
      exact this
  info := elt_info (by kernel_rfl) (by kernel_rfl) (by kernel_rfl)
theorem undCe : Try.prog.underlying 85 = some (.slice 43) := Try.underlying85
theorem elemCe : Try.prog.elem 85 = 43 := by kernel_rfl
theorem tCe (h : Held) : RowT 43 (ceL h).toArray.size := by
  rw [List.size_toArray, ceL_len]
  exact ⟨by kernel_rfl, _, Try.underlying43, rfl⟩
theorem ce_size (p q : Held) : (ceL p).toArray.size = (ceL q).toArray.size := by rw [List.size_toArray, List.size_toArray, ceL_len, ceL_len]
theorem ce_one (p : Held) : (ceL p).toArray.all (·.oneCell') = true := by
  rw [Array.all_eq_true_iff_forall_mem]
  intro u hu
  exact eltCe.one p u (by simpa using hu)
theorem zCe (w : World) : (zeroValue 43).run Try.prog w = .ok (.agg (ceL (0, zero)).toArray) w := (zero_of_info (P := Try.prog) (t := 43) (v := .agg (ceL (0, zero)).toArray) (n := 33) (by kernel_rfl)).1 w
theorem ce_n {w : World} {b o : Nat} {h : Held} (hr : w.rangeAt b o (ceL h)) : w.cell? ⟨b, o, none⟩ = some (.int .u64 (h.1 : Nat)) := hr 0 _ rfl
theorem ce_l {w : World} {b o : Nat} {h : Held} (hr : w.rangeAt b o (ceL h)) : w.rangeAt b (o + 1) (ar 32 h.2).toList := fun j v hj => by
  have := hr (j + 1) v (by unfold ceL; rw [List.getElem?_cons_succ]; exact hj)
  rwa [show o + (j + 1) = o + 1 + j by omega] at this
theorem built_ce (c : Nat) (l : Nat → Nat) : Try.prog.built 43 [(0, .int .u64 (c : Nat)), (1, .agg (ar 32 l))] = some (ceL (c, l)).toArray := by
  have h := built_struct (T := 43) (ss := [(0, 1), (1, 32)]) (N := 33) (by kernel_rfl) Try.underlying43 (by kernel_rfl) ⟨rfl, rfl, trivial⟩ rfl [.int .u64 (c : Nat), .agg (ar 32 l)] (by simp [Value.cells, size_ar])
  simp only [partsAt] at h
  rw [h]
  simp [ceL, Value.cells]
theorem built_ce0 : Try.prog.built 43 [] = some (ceL (0, zero)).toArray := by kernel_rfl
/-- Are two the same. -/
def ceq (a b : Held) : Bool := decide (a.1 = b.1) && eqA 32 a.2 b.2
theorem part_ce0 (h : Held) (w : World) : (part 37 (ceL h).toArray 0).run Try.prog w = .ok (.int .u64 (h.1 : Nat)) w := by
  have hagg : (isAgg 37).run Try.prog w = .ok false w := by
    unfold isAgg
    rw [Sem.run_bind, run_underlying Try.underlying37 w]
    rfl
  simp [part, Sem.run_bind, hagg, ceL]
theorem part_ce1 (h : Held) (w : World) : (part 41 (ceL h).toArray 1).run Try.prog w = .ok (.agg (ar 32 h.2)) w := by
  obtain ⟨d, h1, h2⟩ := tTg.desc
  have hagg : (isAgg 41).run Try.prog w = .ok true w := by
    unfold isAgg
    rw [Sem.run_bind, run_underlying h1 w]
    cases d <;> simp_all
  have he : (List.take 32 (ceL h).tail).toArray = ar 32 h.2 := by
    rw [show (ceL h).tail = (ar 32 h.2).toList from rfl, List.take_of_length_le (by rw [Array.length_toList, size_ar]; exact Nat.le_refl _), Array.toArray_toList]
  simp [part, Sem.run_bind, hagg, size_of tTg w, he]
theorem eqi_num (d : Nat) (a b : Int) (w : World) : (Op.equalIn (d + 1) 37 (.int .u64 a) (.int .u64 b)).run Try.prog w = .ok (decide (a = b)) w := by
  simp [Op.equalIn, run_underlying Try.underlying37]
  by_cases h : a = b <;> simp [h]
theorem eqi_ce (a b : Held) (w : World) : (Op.equalIn 10000 43 (.agg (ceL a).toArray) (.agg (ceL b).toArray)).run Try.prog w = .ok (ceq a b) w := by
  have hf : Try.prog.underlying 43 = some (.struct (Try.prog.fieldsOf 43)) := by kernel_rfl
  have hfs : (Try.prog.fieldsOf 43).toList.map (fun f => (f.name, f.type, f.offset)) = [("Count", 37, 0), ("Label", 41, 1)] := by kernel_rfl
  obtain ⟨f0, f1, e, q0, q1⟩ := list_two hfs
  simp only [Prod.mk.injEq] at q0 q1
  obtain ⟨n0, t0, o0⟩ := q0
  obtain ⟨n1, t1, o1⟩ := q1
  rw [run_equalIn_struct w 9999 _ _ _ hf (by kernel_rfl), e]
  have h1 : (Op.equalIn 9999 41 (.agg (ar 32 a.2)) (.agg (ar 32 b.2))).run Try.prog w = .ok (eqA 32 a.2 b.2) w := by
    have := run_equalIn_row (P := Try.prog) (d := 9997) (t := 41) (e := 5) (k := .u8) (n := 32) (f := fun k => a.2 k) (g := fun k => b.2 k) uTg Try.underlying5 (by kernel_rfl) w
    unfold ar
    rw [this]
    rfl
  have h0 := eqi_num 9998 (a.1 : Nat) (b.1 : Nat) w
  unfold ceq
  rw [Op.eqFields, if_pos (by rw [n0]; decide)]
  simp only [Sem.run_bind, t0, o0, part_ce0, Result.andThen_ok, h0]
  by_cases hc : a.1 = b.1
  · rw [show decide (((a.1 : Nat) : Int) = ((b.1 : Nat) : Int)) = true by simp [hc], show decide (a.1 = b.1) = true by simp [hc]]
    simp only [Bool.not_true, Bool.false_eq_true, if_false, Bool.true_and]
    rw [Op.eqFields, if_pos (by rw [n1]; decide)]
    simp only [Sem.run_bind, t1, o1, part_ce1, Result.andThen_ok, h1]
    cases eqA 32 a.2 b.2 <;> simp [Op.eqFields]
  · rw [show decide (((a.1 : Nat) : Int) = ((b.1 : Nat) : Int)) = false by simp; omega, show decide (a.1 = b.1) = false by simp [hc]]
    simp
theorem run_eq_ce (a b : Held) (w : World) : (binOp .eql 43 (.agg (ceL a).toArray) (.agg (ceL b).toArray)).run Try.prog w = .ok (.bool (ceq a b)) w := by
  rw [run_eql_struct, eqi_ce]; rfl
theorem run_ne_ce (a b : Held) (w : World) : (binOp .neq 43 (.agg (ceL a).toArray) (.agg (ceL b).toArray)).run Try.prog w = .ok (.bool (!ceq a b)) w := by
  rw [run_neq_struct, eqi_ce]; rfl
theorem ceq_iff {a b : Held} : ceq a b = true ↔ a.1 = b.1 ∧ ∀ k, k < 32 → a.2 k = b.2 k := by
  unfold ceq
  rw [Bool.and_eq_true, decide_eq_true_eq, eqA_iff]
end ClP
end Go.Proofs.Ytablkaofaedpeaa
set_option maxRecDepth 100000
namespace Go.Proofs.Ytablkaofaedpeaa
open Go.ChangeShapes Go.WideShapes Go.ChangeAt Go.RowKit
section
variable {α : Type} {E L : TypeId} {k : Nat} {en : α → List Value} {w : World} {g cap : Nat} {l : List α}
theorem own_of_ranges {cur : Array Value} (hE : ∀ x, (en x).length = k) (hk : 0 < k) (hg : w.heap[g]? = some (.cells cur E (0, 0))) (hcs : cur.size = cap * k) (hn : l.length ≤ cap) (hcm : cap ≤ maxLen)
    (hr : ∀ (q : Nat) x, l[q]? = some x → w.rangeAt g (q * k) (en x)) : OwnX E k en w 0 (.slice (some ⟨g, 0, none⟩) l.length cap) l := by
  refine ⟨flat_len hE l, .inr ⟨g, cap, cur, rfl, Nat.zero_le _, hg, hn, hcm, hcs, ?_⟩⟩
  have hlk : l.length * k ≤ cap * k := Nat.mul_le_mul_right k hn
  refine List.ext_getElem? fun m => ?_
  by_cases hm : m < l.length * k
  · rw [List.getElem?_take_of_lt hm, Array.getElem?_toList]
    have hq : m / k < l.length := Nat.div_lt_of_lt_mul (by rw [Nat.mul_comm]; exact hm)
    have hrm := Nat.mod_lt m hk
    have hx : l[m / k]? = some l[m / k] := List.getElem?_eq_getElem hq
    have h1 := flat_at hE l (m / k) (m % k) _ hx hrm
    have hmm : m / k * k + m % k = m := by rw [Nat.mul_comm]; exact Nat.div_add_mod m k
    rw [hmm] at h1
    have hlen := hE l[m / k]
    have h2 : (en l[m / k])[m % k]? = some (en l[m / k])[m % k] := List.getElem?_eq_getElem (by omega)
    have h3 := hr _ _ hx (m % k) _ h2
    rw [hmm, cell_of_row w g m cur E (0, 0) hg] at h3
    rw [h3, h1, h2]
  · rw [List.getElem?_eq_none (by rw [List.length_take]; omega), List.getElem?_eq_none (by rw [flat_len hE]; omega)]
theorem cells_setCells {t : TypeId} {N : Nat} : ∀ (vs : List Value) (o : Nat) (w : World), (∃ cur, w.heap[g]? = some (.cells cur t (0, 0)) ∧ cur.size = N) → ∃ cur, (w.setCells g o vs).heap[g]? = some (.cells cur t (0, 0)) ∧ cur.size = N
  | [], _, _, h => h
  | v :: vs, o, w, ⟨cur, h1, h2⟩ => by
    have h3 : Blk w g t cur := h1
    exact cells_setCells vs (o + 1) _ ⟨_, h3.setCell_same o v, by rw [Array.size_setIfInBounds]; exact h2⟩
theorem turn_setCells : ∀ (vs : List Value) (o : Nat) (w : World), Turn (fun b => b = g) w (w.setCells g o vs)
  | [], _, _ => Turn.refl _ _
  | v :: vs, o, w => (Turn.setCell (S := fun b => b = g) w ⟨g, o, none⟩ v rfl).trans (turn_setCells vs (o + 1) _) fun _ e => .inl e
theorem there_of {t : TypeId} {cur : Array Value} {o m : Nat} (h : w.heap[g]? = some (.cells cur t (0, 0))) (hm : o + m ≤ cur.size) : w.there g o m := fun j hj => by
  have hb : Blk w g t cur := h
  refine ⟨?_, hb.frozen _⟩
  rw [cell_of_row w g (o + j) cur t (0, 0) h, Array.getElem?_eq_getElem (by omega)]
  rfl
theorem zeros_len (z : Array Value) (m : Nat) : (Builtin.zeroCells z m).toList.length = m * z.size := by simp [Builtin.zeroCells]
theorem zeros_mem {z : Array Value} {m : Nat} {v : Value} (hv : v ∈ (Builtin.zeroCells z m).toList) (hz : 0 < z.size) : v ∈ z.toList := by
  simp only [Builtin.zeroCells, Array.toList_map, List.mem_map] at hv
  obtain ⟨i, _, rfl⟩ := hv
  have hi : i % z.size < z.size := Nat.mod_lt _ hz
  rw [getElem!_pos z _ hi]
  exact Array.getElem_mem_toList hi
theorem run_clr {ty : TypeId} {z : Array Value} {o m c : Nat} (hu : Try.prog.underlying L = some (.slice E)) (hz : ∀ w, (zeroValue E).run Try.prog w = .ok (.agg z) w) (hzk : 0 < z.size) (h1 : ∀ u ∈ z.toList, u.oneCell' = true) (ht : w.there g o (m * z.size)) :
    ∃ zs : List Value, zs.length = m * z.size ∧ (Builtin.clear_ #[L] ty #[.slice (some ⟨g, o, none⟩) m c]).run Try.prog w = .ok (.tuple #[]) (w.setCells g o zs) := by
  refine ⟨(Builtin.zeroCells z m).toList, zeros_len z m, ?_⟩
  cases m with
  | zero =>
    have : (Builtin.zeroCells z 0).toList = [] := List.eq_nil_of_length_eq_zero (by rw [zeros_len, Nat.zero_mul])
    rw [this]
    simp [Builtin.clear_, run_underlying hu, Result.andThen, World.setCells]
  | succ m =>
    have hst := run_storeCells_cells (P := Try.prog) g o (Builtin.zeroCells z (m + 1)).toList 0 w (fun j hj => by rw [Nat.add_zero]; exact (ht j (by rw [zeros_len] at hj; exact hj)).1) (fun j hj => by rw [Nat.add_zero]; exact (ht j (by rw [zeros_len] at hj; exact hj)).2)
      (fun v hv => h1 v (zeros_mem hv hzk))
    simp only [Nat.add_zero] at hst
    simp [Builtin.clear_, run_underlying hu, hz, Value.cells, hst, Result.andThen]
variable {ops : Array Oper} {Q : Exit → Act → World → Prop} {a : Act} {rest : List Oper} {dst : Option Tmp} {ty : TypeId} {pos : String} {after : Array Edge} {x : Operand}
theorem wclr {z : Array Value} {o m c : Nat} (hu : Try.prog.underlying L = some (.slice E)) (hz : ∀ w, (zeroValue E).run Try.prog w = .ok (.agg z) w) (hzk : 0 < z.size) (h1 : ∀ u ∈ z.toList, u.oneCell' = true) (hx : a.eval x = .slice (some ⟨g, o, none⟩) m c) (ht : w.there g o (m * z.size))
    (h : ∀ zs : List Value, zs.length = m * z.size → wpList Try.prog ops Q rest (a.put dst (.tuple #[])) (w.setCells g o zs)) :
    wpList Try.prog ops Q (⟨dst, .call { callee := .builtin .clear, args := #[x], argTypes := #[L] }, ty, pos, after, none⟩ :: rest) a w := by
  obtain ⟨zs, h2, hr⟩ := run_clr (ty := ty) (m := m) (c := c) hu hz hzk h1 ht
  refine wpList_plain rfl fun K hK => ?_
  unfold Oper.wp execOp
  simp only [resolve, invoke, builtin, Sem.run_bind, Sem.run_pure, Result.andThen_ok, List.map_toArray, List.map_cons, List.map_nil, hx, hr]
  exact hK _ _ (h zs h2)
theorem stRM {T : TypeId} {cs : Array Value} {o : Nat} {y : Operand} (hT : RowT T cs.size) (hx : a.eval x = .pointer (some ⟨g, o, none⟩)) (hy : a.eval y = .agg cs) (ht : w.there g o cs.size) (h1 : cs.all (·.oneCell') = true)
    (h : wpList Try.prog ops Q rest (a.put dst undef) (w.setCells g o cs.toList)) : wpList Try.prog ops Q (⟨dst, .store T x y, ty, pos, after, none⟩ :: rest) a w :=
  wpList_store_mid rfl T x y rfl g o cs hx hy ht hT.size h1 h
theorem wslF {y : Operand} {n c m : Nat} (hE : EltX E k en) (hu : Try.prog.underlying L = some (.slice E)) (hel : Try.prog.elem L = E) (hx : a.eval x = .slice (some ⟨g, 0, none⟩) n c) (hy : a.eval y = .int .i64 m) (hm : m ≤ n) (hc : m < c)
    (h : wpList Try.prog ops Q rest (a.put dst (.slice (some ⟨g, m * k, none⟩) (n - m) (c - m))) w) : wpList Try.prog ops Q (⟨dst, .slice L x (some y) none none, ty, pos, after, none⟩ :: rest) a w := by
  obtain ⟨ie, z, hi, hz, h1, h2, h3⟩ := hE.info
  have hsz : (sizeOf (Try.prog.elem L)).run Try.prog w = .ok k w := by rw [hel]; simp [sizeOf, typeInfo, hi, h1]
  have hu' : Try.prog.underlying L = some (.slice (Try.prog.elem L)) := by rw [hel]; exact hu
  have hr : (Instr.sliceAt L (.slice (some ⟨g, 0, none⟩) n c) (some (.int .i64 m)) none none).run Try.prog w = .ok (.slice (some ⟨g, m * k, none⟩) (n - m) (c - m)) w := by
    rw [run_sliceAt_slice w L _ _ _ _ hu', run_slice_l w L _ n c hu' .i64 m (by omega) (by omega), hsz]
    simp only [Result.andThen, sliced, Int.toNat_natCast]
    rw [if_neg (by omega), Option.map_some, Addr.add_mid, Nat.zero_add]
  refine wpList_plain rfl fun K hK => ?_
  unfold Oper.wp execOp
  simp only [Sem.run_bind, Option.map_some, Option.map_none, Sem.run_pure, hx, hy, hr, Result.andThen_ok]
  exact hK _ _ h
theorem wslT {y : Operand} {n c m : Nat} (hE : EltX E k en) (hu : Try.prog.underlying L = some (.slice E)) (hel : Try.prog.elem L = E) (hx : a.eval x = .slice (some ⟨g, 0, none⟩) n c) (hy : a.eval y = .int .i64 m) (hm : m < c)
    (h : wpList Try.prog ops Q rest (a.put dst (.slice (some ⟨g, 0, none⟩) m c)) w) : wpList Try.prog ops Q (⟨dst, .slice L x none (some y) none, ty, pos, after, none⟩ :: rest) a w := by
  obtain ⟨ie, z, hi, hz, h1, h2, h3⟩ := hE.info
  have hsz : (sizeOf (Try.prog.elem L)).run Try.prog w = .ok k w := by rw [hel]; simp [sizeOf, typeInfo, hi, h1]
  have hu' : Try.prog.underlying L = some (.slice (Try.prog.elem L)) := by rw [hel]; exact hu
  have hr : (Instr.sliceAt L (.slice (some ⟨g, 0, none⟩) n c) none (some (.int .i64 m)) none).run Try.prog w = .ok (.slice (some ⟨g, 0, none⟩) m c) w := by
    rw [run_sliceAt_slice w L _ _ _ _ hu', run_slice_h w L _ n c hu' .i64 m (by omega) (by omega), hsz]
    simp only [Result.andThen, sliced, Int.toNat_natCast, Nat.sub_zero]
    rw [if_neg (by omega), Option.map_some, Addr.add_mid, Nat.zero_mul, Nat.zero_add]
  refine wpList_plain rfl fun K hK => ?_
  unfold Oper.wp execOp
  simp only [Sem.run_bind, Option.map_some, Option.map_none, Sem.run_pure, hx, hy, hr, Result.andThen_ok]
  exact hK _ _ h
end
theorem OwnX.obj {w : World} {α : Type} {E : TypeId} {k : Nat} {en : α → List Value} {B b : Nat} {v : Value} {l : List α} (h : OwnX E k en w B v l) (hb : v.ownBlock = some b) : ∃ cur, w.heap[b]? = some (.cells cur E (0, 0)) := by
  rcases h.2 with ⟨rfl, _⟩ | ⟨g, cap, cur, rfl, _, hg, _⟩
  · cases hb
  · cases hb
    exact ⟨cur, hg⟩
section
variable {ops : Array Oper} {Q : Exit → Act → World → Prop} {a : Act} {w : World} {rest : List Oper} {dst : Option Tmp} {ty T : TypeId} {pos : String} {after : Array Edge} {z cs : Array Value} {g : Nat} {t : TypeId}
/-- A new variable of any row. -/
theorem alZ' (hz : ∀ w, (zeroValue T).run Try.prog w = .ok (.agg z) w) (h : wpList Try.prog ops Q rest (a.put dst (.pointer (some ⟨w.heap.size, 0, none⟩))) (w.alloc (.cells z T))) :
    wpList Try.prog ops Q (⟨dst, .alloc T, ty, pos, after, none⟩ :: rest) a w := by
  have hr : (Instr.alloc T true (.tuple #[])).run Try.prog w = .ok (.pointer (some ⟨w.heap.size, 0, none⟩)) (w.alloc (.cells z T)) := by
    simp [Instr.alloc, Sem.run_bind, hz w, newVar, newRow, Value.cells]
  refine wpList_plain rfl fun K hK => ?_
  unfold Oper.wp execOp
  simp only [Sem.run_bind, hr, Result.andThen_ok, Sem.run_pure]
  exact hK _ _ h
theorem ret_row' {fn : Func} {R : Ending → World → Prop} {p : Tmp} (hT : RowT T cs.size) (hr : fn.results = #[.cell p T]) (hp : a.tmps.getD p undef = .pointer (some ⟨g, 0, none⟩)) (hdf : a.defers = [])
    (hb : Blk w g t cs) (hR : R (.returned (.agg cs)) w) : bodyPost Try.prog fn R .ret a w := by
  obtain ⟨d, h1, h2⟩ := hT.desc
  exact ret_row hr hb h1 h2 hT.size hp hdf hR
end
end Go.Proofs.Ytablkaofaedpeaa
set_option maxRecDepth 100000
namespace Go.Proofs.Ytablkaofaedpeaa
open Go.ChangeShapes Go.WideShapes Go.ChangeAt Go.RowKit
attribute [local go_sem] Gives GivesE
namespace ClP
def rcF (c : Nat) (l : Nat → Nat) (v : Value) (j : Nat) : Value := if j = 0 then .int .u64 (c : Nat) else if j = 33 then v else .int .u8 (l (j - 1) : Nat)
def rcV (c : Nat) (l : Nat → Nat) (v : Value) : Array Value := row 34 (rcF c l v)
section
variable {w : World} {g c : Nat} {l : Nat → Nat} {v : Value} {t : TypeId}
theorem rc_c (h : Blk w g t (rcV c l v)) : w.cell? ⟨g, 0, none⟩ = some (.int .u64 (c : Nat)) := by
  rw [h.cell, rcV, get_row_lt (by omega)]; rfl
theorem rc_v (h : Blk w g t (rcV c l v)) : w.cell? ⟨g, 33, none⟩ = some v := by
  rw [h.cell, rcV, get_row_lt (by omega)]; rfl
theorem rc_l (h : Blk w g t (rcV c l v)) : w.rangeAt g 1 (ar 32 l).toList := fun j u hu => by
  obtain ⟨hj, rfl⟩ := ar_list_get hu
  rw [h.cell, rcV, get_row_lt (by omega)]
  unfold rcF
  rw [if_neg (by omega), if_neg (by omega), show 1 + j - 1 = j by omega]
theorem rc_setC (h : Blk w g t (rcV c l v)) (c' : Nat) : Blk (w.setCell ⟨g, 0, none⟩ (.int .u64 (c' : Nat))) g t (rcV c' l v) := by
  have h1 := h.setCell_same 0 (.int .u64 (c' : Nat))
  rw [rcV, row_set, row_ext (g := rcF c' l v) fun j hj => by unfold rcF; by_cases e : j = 0 <;> simp [e]] at h1
  exact h1
theorem rc_setV (h : Blk w g t (rcV c l v)) (v' : Value) : Blk (w.setCell ⟨g, 33, none⟩ v') g t (rcV c l v') := by
  have h1 := h.setCell_same 33 v'
  rw [rcV, row_set, row_ext (g := rcF c l v') fun j hj => by
    unfold rcF
    by_cases e : j = 33
    · subst e; rfl
    · rw [if_neg e, if_neg e, if_neg e]] at h1
  exact h1
theorem rc_setL (h : Blk w g t (rcV c l v)) (l' : Nat → Nat) : Blk (w.setCells g 1 (ar 32 l').toList) g t (rcV c l' v) := by
  have h1 := (blk_setCells (ar 32 l').toList 1 w (rcF c l v) h (by rw [Array.length_toList, size_ar]; omega)).1
  rw [row_ext (g := rcF c l' v) fun j hj => by
    rw [Array.length_toList, size_ar]
    unfold rcF
    by_cases e : 1 ≤ j ∧ j < 1 + 32
    · rw [if_pos e, if_neg (by omega), if_neg (by omega)]
      have : (ar 32 l').toList[j - 1]? = some (.int .u8 (l' (j - 1) : Nat)) := by
        rw [Array.getElem?_toList, ar, get_row_lt (by omega)]
      rw [List.getD_eq_getElem?_getD, this]; rfl
    · rw [if_neg e]
      by_cases e0 : j = 0
      · rw [if_pos e0, if_pos e0]
      · rw [if_neg e0, if_neg e0, if_pos (by omega), if_pos (by omega)]] at h1
  exact h1
theorem rc_there (h : Blk w g t (rcV c l v)) {o m : Nat} (hm : o + m ≤ 34) : w.there g o m := there_of (t := t) (cur := rcV c l v) h (by rw [rcV, size_row]; exact hm)
end
theorem rcV_list (c : Nat) (l : Nat → Nat) (v : Value) : rcV c l v = (Value.int .u64 (c : Nat) :: ((ar 32 l).toList ++ [v])).toArray := by
  apply Array.ext'
  apply List.ext_getElem?
  intro j
  rw [Array.getElem?_toList]
  show _ = (Value.int .u64 (c : Nat) :: ((ar 32 l).toList ++ [v]))[j]?
  have hs : (ar 32 l).toList.length = 32 := by rw [Array.length_toList, size_ar]
  by_cases hj : j < 34
  · rw [rcV, get_row_lt hj]
    unfold rcF
    cases j with
    | zero => rfl
    | succ j =>
      rw [List.getElem?_cons_succ, if_neg (by omega), show j + 1 - 1 = j by omega]
      by_cases h33 : j = 32
      · subst h33
        rw [if_pos rfl, List.getElem?_append_right (by omega), hs]; rfl
      · rw [if_neg (by omega), List.getElem?_append_left (by omega), Array.getElem?_toList, ar, get_row_lt (by omega)]
  · rw [Array.getElem?_eq_none (by rw [rcV, size_row]; omega), List.getElem?_eq_none (by rw [List.length_cons, List.length_append, hs, List.length_cons, List.length_nil]; omega)]
section
variable {ops : Array Oper} {Q : Exit → Act → World → Prop} {a : Act} {w : World} {rest : List Oper} {dst : Option Tmp} {ty : TypeId} {pos : String} {after : Array Edge} {x y z : Operand} {c n k : Nat} {l : Nat → Nat} {A : Option Addr} {C : World → Prop} {Qk : Act → Prop} {gd : Option (Nat × Bool)}
theorem ev2 {u v : Value} (hx : a.eval x = u) (hy : a.eval y = v) : (#[(0, x), (1, y)] : Array (Nat × Operand)).map (fun (i, x) => (i, a.eval x)) = #[(0, u), (1, v)] := by
  simp only [List.map_toArray, List.map_cons, List.map_nil, hx, hy]
theorem ev3 {u v t : Value} (hx : a.eval x = u) (hy : a.eval y = v) (hz : a.eval z = t) : (#[(0, x), (1, y), (2, z)] : Array (Nat × Operand)).map (fun (i, x) => (i, a.eval x)) = #[(0, u), (1, v), (2, t)] := by
  simp only [List.map_toArray, List.map_cons, List.map_nil, hx, hy, hz]
theorem run_ce (c : Nat) (l : Nat → Nat) (w : World) : (Instr.build 43 #[(0, .int .u64 (c : Nat)), (1, .agg (ar 32 l))]).run Try.prog w = .ok (.agg (ceL (c, l)).toArray) w := run_build w _ _ _ (built_ce c l)
theorem wblC (hx : a.eval x = .int .u64 (c : Nat)) (hy : a.eval y = .agg (ar 32 l)) (h : wpList Try.prog ops Q rest (a.put dst (.agg (ceL (c, l)).toArray)) w) : wpList Try.prog ops Q (⟨dst, .build 43 #[(0, x), (1, y)], ty, pos, after, none⟩ :: rest) a w := by
  refine wpList_plain rfl fun K hK => ?_
  unfold Oper.wp execOp
  simp only [Sem.run_bind, ev2 hx hy, run_ce, Result.andThen_ok, Sem.run_pure]
  exact hK _ _ h
theorem kblC (hwt : Region.wanted ⟨dst, .build 43 #[(0, x), (1, y)], ty, pos, after, gd⟩ (yielded ops a.tmps) = true) (hx : a.eval x = .int .u64 (c : Nat)) (hy : a.eval y = .agg (ar 32 l)) (h : wpK Try.prog ops C Qk rest (a.put dst (.agg (ceL (c, l)).toArray))) :
    wpK Try.prog ops C Qk (⟨dst, .build 43 #[(0, x), (1, y)], ty, pos, after, gd⟩ :: rest) a :=
  wpK_val hwt (fun w hw => gives_value (w' := w) (by simp only [execOp, Sem.run_bind, ev2 hx hy, run_ce, Result.andThen_ok, Sem.run_pure]) hw) h
end
section
variable {w w' : World} {g : Nat} {v : Value} {l : List Held} {h : Held} {T : Nat → Prop}
end
end ClP
end Go.Proofs.Ytablkaofaedpeaa
set_option maxRecDepth 100000
namespace Go.Proofs.Ytablkaofaedpeaa
open Go.ChangeShapes Go.WideShapes Go.ChangeAt Go.RowKit
attribute [local go_sem] Gives GivesE
namespace ClP
def ptr' (g : Nat) : Value := .pointer (some ⟨g, 0, none⟩)
def most : Nat := 4611686018427387904
/-- What a call of the document's cell may turn. -/
def rSet (g : Nat) (v : Value) (b : Nat) : Prop := b = g ∨ v.ownBlock = some b
theorem tTr {t : Nat → Nat} : RowT 41 (ar 32 t).size := by rw [size_ar]; exact ⟨by kernel_rfl, _, Try.underlying41, rfl⟩
section
variable {w : World} {g : Nat} {v : Value} {L : List Held} {h : Held}
end
section
variable {ops : Array Oper} {a : Act} {w : World} {rest : List Oper} {dst : Option Tmp} {ty r : TypeId} {pos : String} {after : Array Edge} {x y : Operand} {C : World → Prop} {Qk : Act → Prop} {gd : Option (Nat × Bool)} {p q : Held}
theorem exec_neC (hx : a.eval x = .agg (ceL p).toArray) (hy : a.eval y = .agg (ceL q).toArray) : (execOp a.eval ⟨dst, .binOp .neq 43 x y r, ty, pos, after, gd⟩).run Try.prog w = .ok (.value (.bool (!ceq p q))) w := by
  have h1 : (eqGuard .neq 43 x y (.agg (ceL p).toArray) (.agg (ceL q).toArray)).run Try.prog w = .ok () w := by
    simp [eqGuard, gCe, go_sem]
  simp only [execOp, hx, hy, Sem.run_bind, h1, run_ne_ce, Result.andThen_ok, Sem.run_pure]
theorem kneC (b : Bool) (hwt : Region.wanted ⟨dst, .binOp .neq 43 x y r, ty, pos, after, gd⟩ (yielded ops a.tmps) = true) (hx : a.eval x = .agg (ceL p).toArray) (hy : a.eval y = .agg (ceL q).toArray) (hb : (!ceq p q) = b)
    (h : wpK Try.prog ops C Qk rest (a.put dst (.bool b))) : wpK Try.prog ops C Qk (⟨dst, .binOp .neq 43 x y r, ty, pos, after, gd⟩ :: rest) a :=
  wpK_val hwt (fun w hw => gives_value (w' := w) (by rw [exec_neC hx hy, hb]) hw) h
end
theorem ceq_refl (p : Held) : ceq p p = true := ceq_iff.2 ⟨rfl, fun _ _ => rfl⟩
end ClP
end Go.Proofs.Ytablkaofaedpeaa
set_option maxRecDepth 100000
namespace Go.Proofs.Ytablkaofaedpeaa
section
variable {P : Program} {ops : Array Oper}
theorem wpK_list {C : World → Prop} {Q : Exit → Act → World → Prop} {rest : List Oper} : ∀ (l : List Oper) (a : Act) (w : World), wpK P ops C (fun a' => ∀ w', C w' → wpList P ops Q rest a' w') l a → C w → wpList P ops Q (l ++ rest) a w
  | [], _, w, h, hC => h w hC
  | o :: l, a, w, h, hC => by
    obtain ⟨v, h1, h2⟩ := h
    rw [List.cons_append, wpList]
    rcases h1 with ⟨hw, hg⟩ | ⟨hw, rfl⟩
    · rw [if_pos hw]
      exact .inl (wp_of_gives (hg w hC) fun w' hC' => wpK_list l _ w' h2 hC')
    · rw [if_neg (by rw [hw]; exact Bool.false_ne_true)]
      exact wpK_list l _ w h2 hC
theorem wp_region_fixed {id : Nat} {Q : Exit → Act → World → Prop} {C : World → Prop} {a : Act} {w : World} {l : List Oper} (n : Nat) (hC : C w)
    (h : wpK P l.toArray C (fun a' => ∀ w', C w' → wpList P l.toArray Q (l.drop n) a' w') (l.take n) a) : (Code.region id l.toArray false).wp P Q a w := by
  refine wp_region_lit ?_
  have := wpK_list _ _ _ h hC
  rwa [List.take_append_drop] at this
end
end Go.Proofs.Ytablkaofaedpeaa
set_option maxRecDepth 100000
namespace Go.Proofs.Ytablkaofaedpeaa
open Go.ChangeShapes Go.WideShapes Go.ChangeAt Go.RowKit
attribute [local go_sem] Gives GivesE
namespace ClP
/-- A place in memory: a block, and a number in it. -/
abbrev At := Nat × Nat
abbrev Cs := At → Prop
/-- From w to w' no place is turned but those of M; new blocks may come. -/
structure TurnC (M : Cs) (w w' : World) : Prop where
  out : Turn (fun b => ∃ i, M (b, i)) w w'
  cell : ∀ b i, b < w.heap.size → ¬ M (b, i) → w'.cell? ⟨b, i, none⟩ = w.cell? ⟨b, i, none⟩
theorem TurnC.size {M : Cs} {w w' : World} (h : TurnC M w w') : w.heap.size ≤ w'.heap.size := h.out.size
theorem TurnC.of_turn {T : Nat → Prop} {w w' : World} (h : Turn T w w') : TurnC (fun b => T b.1) w w' where
  out := h.mono fun _ e => ⟨0, e⟩
  cell b i hb hn := World.cell?_of_block (h.block b hb hn)
theorem TurnC.of_below {B : Nat} {w w' : World} (h : Below B w w') : TurnC (fun b => B ≤ b.1) w w' := TurnC.of_turn (Turn.of_below h)
theorem TurnC.mono {M N : Cs} {w w' : World} (h : TurnC M w w') (hM : ∀ b, M b → N b) : TurnC N w w' where
  out := h.out.mono fun _ ⟨i, e⟩ => ⟨i, hM _ e⟩
  cell b i hb hn := h.cell b i hb fun e => hn (hM _ e)
/-- rep w g M I L h: in w the pointer to block g is a cell that holds h, and has held L; it turns places of M alone, and reads those of M and I. -/
abbrev RepC := World → Nat → Cs → Cs → List Held → Held → Prop
def outC (rep : RepC) (w : World) (g : Nat) (M I : Cs) (L : List Held) (h : Held) (w' : World) : Prop :=
  ∃ M' I', rep w' g M' I' L h ∧ (∀ b, M' b → M b ∨ w.heap.size ≤ b.1) ∧ (∀ b, I' b → M b ∨ I b ∨ w.heap.size ≤ b.1) ∧ TurnC M w w'
structure CellD (rep : RepC) : Prop where
  lt : ∀ {w g M I L h}, rep w g M I L h → ∀ b, M b ∨ I b → b.1 < w.heap.size
  frame : ∀ {w w' g M I L h} {T : Cs}, rep w g M I L h → TurnC T w w' → (∀ b, M b ∨ I b → ¬ T b) → rep w' g M I L h
  own : ∀ {w g M I L h}, rep w g M I L h → ∀ b, M b → ¬ I b
  new : ∀ (c : Nat) (l : Nat → Nat), c ≤ most → ∀ w, Calls Try.prog 21 #[.agg (ceL (c, l)).toArray] w fun e w' => ∃ g M I, e = .returned (.tuple #[ptr' g, .int .i64 0]) ∧ rep w' g M I [((c, l) : Held)] (c, l) ∧ (∀ b, M b ∨ I b → w.heap.size ≤ b.1) ∧ Below w.heap.size w w'
  bad : ∀ (c : Nat) (l : Nat → Nat), most < c → ∀ w, Calls Try.prog 21 #[.agg (ceL (c, l)).toArray] w fun e w' => e = .returned (.tuple #[.pointer none, .int .i64 2]) ∧ Below w.heap.size w w'
  read : ∀ {w g M I L h}, rep w g M I L h → Calls Try.prog 43 #[ptr' g] w fun e w' => e = .returned (.tuple #[.agg (ceL h).toArray, .int .i64 0]) ∧ Below w.heap.size w w'
  adv : ∀ {w g M I L h}, rep w g M I L h → h.1 < most → L.length ≤ 1000 → ∀ t : Nat → Nat, Calls Try.prog 41 #[ptr' g, .agg (ar 32 t)] w fun e w' => e = .returned (.tuple #[.int .u64 ((h.1 + 1 : Nat) : Int), .int .i64 0]) ∧ outC rep w g M I (L ++ [((h.1 + 1, t) : Held)]) (h.1 + 1, t) w'
  full : ∀ {w g M I L h}, rep w g M I L h → h.1 = most → ∀ t : Nat → Nat, Calls Try.prog 41 #[ptr' g, .agg (ar 32 t)] w fun e w' => e = .returned (.tuple #[.int .u64 0, .int .i64 15]) ∧ outC rep w g M I L h w'
/-- A cell of the program's; all that it lays lies from block B on. -/
structure C1 (rep : RepC) (B : Nat) (w : World) (g : Nat) (M I : Cs) (L : List Held) (h : Held) : Prop where
  prog : rep w g M I L h
  low : ∀ b, M b ∨ I b → B ≤ b.1
  base : B ≤ w.heap.size
def Went (w : World) (M I : Cs) (w' : World) (M' I' : Cs) : Prop :=
  (∀ b, M' b → M b ∨ w.heap.size ≤ b.1) ∧ (∀ b, I' b → M b ∨ I b ∨ w.heap.size ≤ b.1) ∧ TurnC M w w'
section
variable {rep : RepC} {B g : Nat} {w w' : World} {M I M' I' : Cs} {L L' : List Held} {h h' : Held}
theorem C1.out (H : C1 rep B w g M I L h) (ho : outC rep w g M I L' h' w') : ∃ M' I', C1 rep B w' g M' I' L' h' ∧ Went w M I w' M' I' := by
  obtain ⟨M', I', h1, h2, h3, h4⟩ := ho
  refine ⟨M', I', ⟨h1, fun b hb => ?_, Nat.le_trans H.base h4.size⟩, h2, h3, h4⟩
  rcases hb with hb | hb
  · rcases h2 b hb with e | e
    · exact H.low b (.inl e)
    · exact Nat.le_trans H.base e
  · rcases h3 b hb with e | e | e
    · exact H.low b (.inl e)
    · exact H.low b (.inr e)
    · exact Nat.le_trans H.base e
theorem C1.went (H : C1 rep B w g M I L h) (hw : Went w M I w' M' I') : Below B w w' := hw.2.2.out.below H.base fun b ⟨i, e⟩ => H.low (b, i) (.inl e)
end
/-- A label of one number. -/
def lab1 (x : Nat) : Nat → Nat := fun j => if j = 0 then x else 0
theorem run_lab (x : Nat) (w : World) : (Instr.build 41 #[(0, .int .u8 (x : Nat))]).run Try.prog w = .ok (.agg (ar 32 (lab1 x))) w :=
  run_build w _ _ _ (by kernel_rfl)
theorem run_ce0 (w : World) : (Instr.build 43 #[]).run Try.prog w = .ok (.agg (ceL (0, zero)).toArray) w := run_build w _ _ _ built_ce0
section
variable {ops : Array Oper} {Q : Exit → Act → World → Prop} {a : Act} {w : World} {rest : List Oper} {dst : Option Tmp} {ty : TypeId} {pos : String} {after : Array Edge}
theorem wblZ (h : wpList Try.prog ops Q rest (a.put dst (.agg (ceL (0, zero)).toArray)) w) : wpList Try.prog ops Q (⟨dst, .build 43 #[], ty, pos, after, none⟩ :: rest) a w := by
  refine wpList_plain rfl fun K hK => ?_
  unfold Oper.wp execOp
  simp [run_ce0, Result.andThen]
  exact hK _ _ h
end
end ClP
end Go.Proofs.Ytablkaofaedpeaa
set_option maxRecDepth 100000
namespace Go.Proofs.Ytablkaofaedpeaa
namespace BuM
open MbM
/-- A step; what went over a bus. -/
structure Stp where
  a : Int
  kind : Int
  m : Int
  i : Int
  n : Int
  s : Nat → Nat
  picks : List Nat
structure Ent where
  d : Int
  m : Int
  i : Int
  s : Nat → Nat
  e : Int
structure Bs where
  ms : List St
  c : ClP.Held
  steps : List Stp
  off : Bool
  log : List Ent
def crashAll : List St → List Nat → List St
  | [], _ => []
  | st :: l, p => crash st (p.take st.log.length) :: crashAll l (p.drop st.log.length)
/-- What a step does to its member. -/
def deed (s : Stp) (st : St) : St :=
  if s.kind = 1 then seT st s.i s.s else if s.kind = 2 then mkT st else if s.kind = 3 then bkT st s.n else if s.kind = 4 then fail st true else if s.kind = 5 then fail st false else st
def mem (l : List St) (m : Int) : Bool := decide (0 ≤ m ∧ m < l.length)
def at' (l : List St) (m : Int) : St := l.getD m.toNat (made 1)
def hand (now : Nat) (s : Stp) (x : List St × Bool) : List St × Bool :=
  if s.a = (now : Int) then
    if s.kind = 6 then (crashAll x.1 s.picks, true)
    else if mem x.1 s.m then (x.1.set s.m.toNat (deed s (at' x.1 s.m)), x.2) else x
  else x
def hands (now : Nat) (l : List Stp) (x : List St × Bool) : List St × Bool := l.foldl (fun x s => hand now s x) x
/-- What is done ahead of an I/O. -/
def ahead (b : Bs) : Bs := { b with ms := (hands b.log.length b.steps (b.ms, b.off)).1, off := (hands b.log.length b.steps (b.ms, b.off)).2 }
def may (b : Bs) (m : Int) : Int := if b.off then 13 else if mem b.ms m then 0 else 2
def put (b : Bs) (x : Ent) : Bs := { b with log := b.log ++ [x] }
def upd (b : Bs) (m : Int) (st : St) : Bs := { b with ms := b.ms.set m.toNat st }
/-- What a Read tells; what a Read leaves. -/
def rdB (b : Bs) (m i : Int) : Ent := if may b m = 0 then ⟨1, m, i, rdS (at' b.ms m) i, rdE (at' b.ms m) i⟩ else ⟨1, m, i, zero, may b m⟩
def rdT (b : Bs) (m i : Int) : Bs := put (ahead b) (rdB (ahead b) m i)
def wrB (b : Bs) (m i : Int) (x : Nat → Nat) : Ent := ⟨2, m, i, x, if may b m = 0 then rdE (at' b.ms m) i else may b m⟩
def wrM (b : Bs) (m i : Int) (x : Nat → Nat) : Bs := if may b m = 0 then upd b m (wrT (at' b.ms m) i x) else b
def wrT (b : Bs) (m i : Int) (x : Nat → Nat) : Bs := put (wrM (ahead b) m i x) (wrB (ahead b) m i x)
def flB (b : Bs) (m : Int) : Ent := ⟨3, m, 0, zero, if may b m = 0 then flE (at' b.ms m) else may b m⟩
def flM (b : Bs) (m : Int) : Bs := if may b m = 0 then upd b m (flT (at' b.ms m)) else b
def flT (b : Bs) (m : Int) : Bs := put (flM (ahead b) m) (flB (ahead b) m)
def pad (t : Nat → Nat) : Nat → Nat := fun j => if j < 32 then t j else 0
def ceB (b : Bs) : Ent := if b.off then ⟨4, 0, 0, zero, 13⟩ else ⟨4, 0, 0, pad b.c.2, 0⟩
def ceV (b : Bs) : ClP.Held := if b.off then (0, ClP.zero) else b.c
def ceT (b : Bs) : Bs := put (ahead b) (ceB (ahead b))
def full (h : ClP.Held) : Bool := decide (h.1 = ClP.most)
def adE (b : Bs) : Int := if b.off then 13 else if full b.c then 15 else 0
def adN (b : Bs) : Int := if b.off then 0 else if full b.c then 0 else ((b.c.1 + 1 : Nat) : Int)
def adB (b : Bs) (t : Nat → Nat) : Ent := ⟨5, 0, 0, pad t, adE b⟩
def adM (b : Bs) (t : Nat → Nat) : Bs := if b.off then b else if full b.c then b else { b with c := (b.c.1 + 1, t) }
def adT (b : Bs) (t : Nat → Nat) : Bs := put (adM (ahead b) t) (adB (ahead b) t)
def power (b : Bs) : Bs := { b with off := false }
def new (ms : List St) (c : ClP.Held) (steps : List Stp) : Bs := ⟨ms, c, steps, false, []⟩
/-- How often a step comes at a number. -/
def many (now : Nat) (l : List Stp) : Nat := l.countP fun s => decide (s.a = (now : Int))
theorem hands_cons (now : Nat) (s : Stp) (l : List Stp) (x : List St × Bool) : hands now (s :: l) x = hands now l (hand now s x) := rfl
theorem hands_snoc (now : Nat) (s : Stp) (l : List Stp) (x : List St × Bool) : hands now (l ++ [s]) x = hand now s (hands now l x) := by unfold hands; rw [List.foldl_append]; rfl
theorem crashAll_len : ∀ (l : List St) (p : List Nat), (crashAll l p).length = l.length
  | [], _ => rfl
  | _ :: l, p => by rw [crashAll, List.length_cons, crashAll_len l, List.length_cons]
theorem hand_len (now : Nat) (s : Stp) (x : List St × Bool) : (hand now s x).1.length = x.1.length := by
  unfold hand
  split
  · split
    · exact crashAll_len _ _
    · split
      · exact List.length_set
      · rfl
  · rfl
theorem hands_len (now : Nat) : ∀ (l : List Stp) (x : List St × Bool), (hands now l x).1.length = x.1.length
  | [], _ => rfl
  | s :: l, x => by rw [hands_cons, hands_len now l, hand_len]
def okS (s : Stp) : Prop := (∀ k, s.s k < 256) ∧ ∀ p ∈ s.picks, p < 256
def okM (l : List St) : Prop := ∀ st ∈ l, st.ok
theorem deed_ok {s : Stp} {st : St} (hs : okS s) (h : st.ok) : (deed s st).ok := by
  unfold deed
  split
  · exact se_ok h _ hs.1
  · split
    · exact mk_ok h
    · split
      · exact bk_ok h _
      · split
        · exact fa_ok h _
        · split
          · exact fa_ok h _
          · exact h
theorem crashAll_ok : ∀ {l : List St} (p : List Nat), okM l → okM (crashAll l p)
  | [], _, _ => fun _ h => by cases h
  | st :: l, p, h => fun x hx => by
    rw [crashAll] at hx
    rcases List.mem_cons.1 hx with rfl | hx
    · exact cr_ok (h st (List.mem_cons_self ..)) _
    · exact crashAll_ok _ (fun y hy => h y (List.mem_cons_of_mem _ hy)) x hx
theorem at_ok {l : List St} (h : okM l) (m : Int) : (at' l m).ok := by
  unfold at'
  rw [List.getD_eq_getElem?_getD]
  cases e : l[m.toNat]? with
  | none => exact made_ok 1
  | some st => exact h st (List.mem_of_getElem? e)
theorem set_ok {l : List St} (h : okM l) (k : Nat) {st : St} (hs : st.ok) : okM (l.set k st) := fun x hx => by
  rcases List.mem_or_eq_of_mem_set hx with e | rfl
  · exact h x e
  · exact hs
theorem hand_ok {now : Nat} {s : Stp} {x : List St × Bool} (hs : okS s) (h : okM x.1) : okM (hand now s x).1 := by
  unfold hand
  split
  · split
    · exact crashAll_ok _ h
    · split
      · exact set_ok h _ (deed_ok hs (at_ok h _))
      · exact h
  · exact h
theorem hands_ok {now : Nat} : ∀ {l : List Stp} {x : List St × Bool}, (∀ s ∈ l, okS s) → okM x.1 → okM (hands now l x).1
  | [], _, _, h => h
  | s :: l, x, hs, h => hands_ok (l := l) (fun t ht => hs t (List.mem_cons_of_mem _ ht)) (hand_ok (hs s (List.mem_cons_self ..)) h)
end BuM
end Go.Proofs.Ytablkaofaedpeaa
set_option maxRecDepth 100000
namespace Go.Proofs.Ytablkaofaedpeaa
open Go.ChangeShapes Go.WideShapes Go.ChangeAt Go.RowKit
attribute [local go_sem] Gives
namespace MbP
open MbM
theorem tSe : ArT 30 64 := ⟨by kernel_rfl, ⟨_, Try.underlying30, rfl⟩, (zero_of_info (P := Try.prog) (t := 30) (v := .agg (ar 64 fun _ => 0)) (n := 64) (by kernel_rfl)).1⟩
/-- A put as its 65 cells. -/
def atL (p : Pt) : List Value := .int .i64 p.i :: (ar 64 p.s).toList
theorem atL_len (p : Pt) : (atL p).length = 65 := by unfold atL; rw [List.length_cons, Array.length_toList, size_ar]
theorem atL_ones (p : Pt) : ∀ u ∈ atL p, u.oneCell' = true := fun u hu => by
  unfold atL at hu
  rcases List.mem_cons.1 hu with rfl | hu
  · rfl
  · have := Array.all_eq_true_iff_forall_mem.1 (row_one (n := 64) (f := fun j => Value.int .u8 (p.s j : Nat)) fun _ _ => rfl) u (by simpa [ar] using hu)
    exact this
theorem at_i {w : World} {b o : Nat} {p : Pt} (h : w.rangeAt b o (atL p)) : w.cell? ⟨b, o, none⟩ = some (.int .i64 p.i) := h 0 _ rfl
theorem at_s {w : World} {b o : Nat} {p : Pt} (h : w.rangeAt b o (atL p)) : w.rangeAt b (o + 1) (ar 64 p.s).toList := fun j v hj => by
  have := h (j + 1) v (by unfold atL; rw [List.getElem?_cons_succ]; exact hj)
  rwa [show o + (j + 1) = o + 1 + j by omega] at this
def okP (p : Pt) : Prop := (-9223372036854775808 ≤ p.i ∧ p.i ≤ 9223372036854775807) ∧ ∀ k, p.s k < 256
def tellS (o : Option (Nat → Nat)) : Value := .tuple #[.agg (ar 64 (o.getD zero)), .bool o.isSome]
end MbP
end Go.Proofs.Ytablkaofaedpeaa
set_option maxRecDepth 100000
namespace Go.Proofs.Ytablkaofaedpeaa
open Go.ChangeShapes Go.WideShapes Go.ChangeAt Go.RowKit
attribute [local go_sem] Gives
namespace MbP
open MbM
/-- Slices as elements. -/
abbrev SlE := Option Addr × Nat × Nat
def slE (x : SlE) : List Value := [.slice x.1 x.2.1 x.2.2]
/-- The document's member, by its lists. -/
structure Ls where
  n : Int
  dur : List Pt
  log : List Pt
  marks : List (List Pt)
  fails : Bool
  hurt : Bool
def Ls.sem (s : Ls) : St := ⟨s.n, img s.dur, s.log, s.marks.map img, s.fails, s.hurt⟩
def mbC (n : Int) (A1 : Option Addr) (n1 c1 : Nat) (A2 : Option Addr) (n2 c2 : Nat) (A3 : Option Addr) (n3 c3 : Nat) (f h : Bool) : Array Value := #[.int .i64 n, .slice A1 n1 c1, .slice A2 n2 c2, .slice A3 n3 c3, .bool f, .bool h]
section
variable {w w' : World} {g : Nat} {I J T : Nat → Prop} {s : Ls} {A1 A2 A3 : Option Addr} {c1 c2 c3 : Nat}
end
def seenL (s : Ls) (i : Int) : Nat → Nat := (find s.log i).getD ((find s.dur i).getD zero)
theorem seenL_sem (s : Ls) (i : Int) : seenL s i = MbM.seen s.sem i := by
  show (find s.log i).getD ((find s.dur i).getD zero) = app (img s.dur) s.log i
  rw [app_find, img_find]
end MbP
end Go.Proofs.Ytablkaofaedpeaa
set_option maxRecDepth 100000
namespace Go.Proofs.Ytablkaofaedpeaa
open Go.ChangeShapes Go.WideShapes Go.ChangeAt Go.RowKit
attribute [local go_sem] Gives GivesE
namespace MbP
open MbM
def Ls.may (s : Ls) (i : Int) : Bool := decide (0 ≤ i ∧ i < s.n)
/-- What Read tells. -/
def readE (s : Ls) (i : Int) : Int := if s.may i then (if s.fails then 10 else 0) else 2
def readS (s : Ls) (i : Int) : Nat → Nat := if s.may i then (if s.fails then zero else seenL s i) else zero
def lookE (s : Ls) (i : Int) : Int := if s.may i then 0 else 2
def lookS (s : Ls) (i : Int) : Nat → Nat := if s.may i then (find s.dur i).getD zero else zero
section
variable {ops : Array Oper} {Q : Exit → Act → World → Prop} {a : Act} {w : World} {rest : List Oper} {dst : Option Tmp} {ty : TypeId} {pos : String} {after : Array Edge} {o1 o2 : Operand} {i : Int} {x : Nat → Nat}
end
end MbP
end Go.Proofs.Ytablkaofaedpeaa
set_option maxRecDepth 100000
namespace Go.Proofs.Ytablkaofaedpeaa
open Go.ChangeShapes Go.WideShapes Go.ChangeAt Go.RowKit
attribute [local go_sem] Gives GivesE
theorem Sli.bound {α : Type} {k : Nat} {en : α → List Value} {S : Nat → Prop} {w : World} {A : Option Addr} {l : List α} {n cp : Nat} (h : Sli k en S w A l n cp) : Sli k en (fun b => S b ∧ b < w.heap.size) w A l n cp :=
  ⟨h.len, h.cap, h.max, h.none, fun hn => by obtain ⟨b, o, e, hS, hl, hr⟩ := h.lst hn; exact ⟨b, o, e, ⟨hS, hl⟩, hl, hr⟩⟩
namespace MbP
open MbM
section
variable {w : World} {g : Nat} {I J : Nat → Prop} {s : Ls} {A1 A2 A3 A : Option Addr} {c1 c2 c3 c B : Nat} {l : List Pt}
def nw (I : Nat → Prop) (B : Nat) (w : World) : Nat → Prop := fun b => I b ∨ (B ≤ b ∧ b < w.heap.size)
theorem tgt {v : Value} {j : Nat} : Turn (fun b => b = g) w (w.setCell ⟨g, j, none⟩ v) := Turn.setCell (S := fun b => b = g) w ⟨g, j, none⟩ v rfl
end
def wrL (s : Ls) (i : Int) (x : Nat → Nat) : Ls := if s.may i then (if s.fails then s else { s with log := s.log ++ [⟨i, x⟩] }) else s
end MbP
end Go.Proofs.Ytablkaofaedpeaa
set_option maxRecDepth 100000
namespace Go.Proofs.Ytablkaofaedpeaa
open Go.ChangeShapes Go.WideShapes Go.ChangeAt Go.RowKit
attribute [local go_sem] Gives GivesE
namespace MbP
open MbM
theorem tgt2 {w : World} {g : Nat} {u v : Value} {i j : Nat} : Turn (fun b => b = g) w ((w.setCell ⟨g, i, none⟩ u).setCell ⟨g, j, none⟩ v) := tgt.trans tgt fun _ h => .inl h
def flE (s : Ls) : Int := if s.fails then 10 else 0
def flL (s : Ls) : Ls := if s.fails then s else { s with dur := s.dur ++ s.log, log := [] }
def failL (s : Ls) (q : Bool) : Ls := { s with fails := q, hurt := s.hurt || q }
def backE (s : Ls) (n : Int) : Int := if n < 0 ∨ (s.marks.length : Int) ≤ n then 2 else 0
def backL (s : Ls) (n : Int) : Ls := if n < 0 ∨ (s.marks.length : Int) ≤ n then s else { s with dur := s.marks.getD n.toNat [], log := [], hurt := true }
end MbP
end Go.Proofs.Ytablkaofaedpeaa
set_option maxRecDepth 100000
namespace Go.Proofs.Ytablkaofaedpeaa
open Go.ChangeShapes Go.WideShapes Go.ChangeAt Go.RowKit
attribute [local go_sem] Gives GivesE
namespace MbP
open MbM
def Ls.made (n : Int) : Ls := ⟨n, [], [], [], false, false⟩
end MbP
end Go.Proofs.Ytablkaofaedpeaa
set_option maxRecDepth 100000
namespace Go.Proofs.Ytablkaofaedpeaa
open Go.ChangeShapes Go.WideShapes Go.ChangeAt Go.RowKit
def u8s (l : List Nat) : List UInt8 := l.map UInt8.ofNat
theorem u8s_length (l : List Nat) : (u8s l).length = l.length := List.length_map _
/-- A text of these bytes. -/
def str (l : List Nat) : ByteArray := ⟨(u8s l).toArray⟩
theorem u8s_inj {l m : List Nat} (hl : ∀ x ∈ l, x < 256) (hm : ∀ x ∈ m, x < 256) (h : u8s l = u8s m) : l = m := by
  have key : ∀ {l : List Nat}, (∀ x ∈ l, x < 256) → (u8s l).map (·.toNat) = l := fun {l} hl => by
    unfold u8s
    rw [List.map_map]
    conv => rhs; rw [← List.map_id l]
    exact List.map_congr_left fun x hx => by
      have := hl x hx
      simp; omega
  rw [← key hl, h, key hm]
theorem str_inj {l m : List Nat} (hl : ∀ x ∈ l, x < 256) (hm : ∀ x ∈ m, x < 256) (h : str l = str m) : l = m := by
  unfold str at h
  exact u8s_inj hl hm (by simpa using h)
theorem toList_ne {a b : ByteArray} (h : a ≠ b) : (a.toList == b.toList) = false := by
  rw [beq_eq_false_iff_ne]
  intro e
  rw [ByteArray.toList_eq, ByteArray.toList_eq] at e
  exact h (by cases a; cases b; simp at e; rw [e])
theorem run_bytes_str {A : Option Addr} {l : List Nat} {n cap B : Nat} (hl : l.length = n) (h256 : ∀ x ∈ l, x < 256) (h0 : A = none → n = 0 ∧ cap = 0) {w : World} (hA : Byt w B A l) :
    (convert 65 9 (.slice A n cap)).run Try.prog w = .ok (.string (str l)) w := by
  by_cases hn : 0 < l.length
  · obtain ⟨b, o, rfl, _, hr⟩ := hA hn
    have h := run_convert_bytes_back (P := Try.prog) w 65 9 5 ⟨b, o, none⟩ cap (u8s l) Try.underlying65 Try.underlying5 Try.underlying9 (fun j hj => by
      rw [u8s_length] at hj
      have hg : l.getD j 0 = l[j] := by rw [List.getD_eq_getElem?_getD, List.getElem?_eq_getElem hj]; rfl
      have hlt := h256 l[j] (List.getElem_mem hj)
      rw [Addr.add_mid, hr j hj, hg]
      simp only [u8s, List.getElem_map]
      congr 2
      simp; omega)
    rw [u8s_length, hl] at h
    exact h
  · obtain rfl := List.eq_nil_of_length_eq_zero (show l.length = 0 by omega)
    obtain rfl : n = 0 := hl.symm
    cases A with
    | some ad => exact run_convert_bytes_back (P := Try.prog) w 65 9 5 ad cap [] Try.underlying65 Try.underlying5 Try.underlying9 fun j hj => absurd hj (by simp)
    | none =>
      rw [run_convert_bytes_string w 65 9 5 none 0 cap Try.underlying65 Try.underlying5 Try.underlying9]
      simp [Conv.bytesToString, str, u8s]
      rfl
/-- A slice of bytes that came in, of which the first thousand are looked at. -/
structure Arg (w : World) (K : Option Addr) (key : List Nat) (kn kcap : Nat) : Prop where
  len : key.length = kn
  cap : kn ≤ kcap
  max : kcap ≤ maxLen
  b256 : B256 key
  none : K = none → kn = 0 ∧ kcap = 0
  byt : Byt w w.heap.size K key
theorem Arg.cut {w : World} {K : Option Addr} {key : List Nat} {kn kcap : Nat} (h : Arg w K key kn kcap) : Arg w K (key.take 1000) (min kn 1000) kcap where
  len := by rw [List.length_take, h.len]; omega
  cap := by have := h.cap; omega
  max := h.max
  b256 := h.b256.take 1000
  none e := by obtain ⟨h1, h2⟩ := h.none e; exact ⟨by omega, h2⟩
  byt := h.byt.take 1000
theorem Arg.on {w w' : World} {K : Option Addr} {key : List Nat} {kn kcap : Nat} (h : Arg w K key kn kcap) (hb : Below w.heap.size w w') : Arg w' K key kn kcap where
  len := h.len
  cap := h.cap
  max := h.max
  b256 := h.b256
  none := h.none
  byt := (h.byt.below hb (Nat.le_refl _)).more hb.size
theorem Own.arg {w : World} {B : Nat} {v : Value} {l : List Nat} (h : Own 5 .u8 w B v l) (hb : B256 l) : ∃ A cap, v = .slice A l.length cap ∧ Arg w A l l.length cap := by
  rcases h.form with ⟨rfl, rfl⟩ | ⟨g, cap, rfl, _, _, h1, h2, h3⟩
  · exact ⟨.none, 0, rfl, rfl, Nat.le_refl _, Nat.zero_le _, hb, fun _ => ⟨rfl, rfl⟩, Byt.none rfl⟩
  · exact ⟨_, cap, rfl, rfl, h1, h2, hb, (fun e => by cases e), h3.byt⟩
theorem Arg.str {w : World} {K : Option Addr} {key : List Nat} {kn kcap : Nat} (h : Arg w K key kn kcap) : (convert 65 9 (.slice K kn kcap)).run Try.prog w = .ok (.string (str key)) w := run_bytes_str h.len h.b256 h.none h.byt
end Go.Proofs.Ytablkaofaedpeaa
set_option maxRecDepth 100000
namespace Go.Proofs.Ytablkaofaedpeaa
open Go.ChangeShapes Go.WideShapes Go.ChangeAt Go.RowKit
attribute [local go_sem] Gives GivesE
theorem Arg.turn {S : Nat → Prop} {w w' : World} {K : Option Addr} {key : List Nat} {kn kcap : Nat} (h : Arg w K key kn kcap) (ht : Turn S w w') (hne : ∀ b o, 0 < key.length → K = some ⟨b, o, .none⟩ → ¬ S b) : Arg w' K key kn kcap where
  len := h.len
  cap := h.cap
  max := h.max
  b256 := h.b256
  none := h.none
  byt hn := by
    obtain ⟨b, o, e, hl, hr⟩ := h.byt hn
    exact ⟨b, o, e, Nat.lt_of_lt_of_le hl ht.size, fun i hi => ht.cell (p := ⟨b, o + i, .none⟩) (hr i hi) (hne b o hn e)⟩
namespace MbP
open MbM
theorem kept_length (l : List Pt) (picks : List Nat) : ∀ n, (keptN l picks n).length ≤ n
  | 0 => Nat.le_refl _
  | n + 1 => by
    rw [kept_step, List.length_append]
    have := kept_length l picks n
    have h2 : (if picks.getD n 0 = 0 then ([] : List Pt) else l[n]?.toList).length ≤ 1 := by
      split
      · simp
      · cases l[n]? <;> simp
    omega
def durK (s : Ls) (picks : List Nat) (k : Nat) : Ls := { s with dur := s.dur ++ keptN s.log picks k }
def crashL (s : Ls) (picks : List Nat) : Ls := { s with dur := s.dur ++ kept s.log picks, log := [] }
end MbP
end Go.Proofs.Ytablkaofaedpeaa
set_option maxRecDepth 100000
namespace Go.Proofs.Ytablkaofaedpeaa
open Go.ChangeShapes Go.WideShapes Go.ChangeAt Go.RowKit
attribute [local go_sem] Gives GivesE
namespace MbP
open MbM
/-- What of a list is not of sector i. -/
def oth (l : List Pt) (i : Int) : List Pt := l.filter fun p => decide (p.i ≠ i)
theorem oth_step {l : List Pt} {k : Nat} {p : Pt} (h : l[k]? = some p) (i : Int) : oth (l.take (k + 1)) i = oth (l.take k) i ++ (if p.i = i then [] else [p]) := by
  unfold oth
  rw [List.take_add_one, h, List.filter_append]
  congr 1
  by_cases e : p.i = i <;> simp [e]
theorem oth_length (l : List Pt) (i : Int) (k : Nat) : (oth (l.take k) i).length ≤ k := by
  unfold oth
  exact Nat.le_trans (List.length_filter_le _ _) (by rw [List.length_take]; omega)
def setL (s : Ls) (i : Int) (x : Nat → Nat) : Ls := if s.may i then { s with dur := s.dur ++ [⟨i, x⟩], log := oth s.log i, hurt := true } else s
end MbP
end Go.Proofs.Ytablkaofaedpeaa
set_option maxRecDepth 100000
namespace Go.Proofs.Ytablkaofaedpeaa
open Go.ChangeShapes Go.WideShapes Go.ChangeAt Go.RowKit
attribute [local go_sem] Gives GivesE
namespace MbP
open MbM
def markL (s : Ls) : Ls := if 64 ≤ s.marks.length then s else { s with marks := s.marks ++ [s.dur ++ s.log] }
def markE (s : Ls) : Int := if 64 ≤ s.marks.length then 7 else 0
def markN (s : Ls) : Int := if 64 ≤ s.marks.length then 0 else s.marks.length
/-- A slice of slices, the last of which is a list d. -/
def spM (S : Nat → Prop) (xs : List SlE) (d : List Pt) : Sp := ⟨fun v => ∃ (A : Option Addr) (c : Nat), v = .slice A (xs.length + 1) c,
  fun v w => ∃ (A : Option Addr) (c : Nat), v = .slice A (xs.length + 1) c ∧ ∃ (A' : Option Addr) (c' : Nat), Sli 1 slE S w A (xs ++ [(A', d.length, c')]) (xs.length + 1) c ∧ Sli 65 atL S w A' d d.length c', .slice none (xs.length + 1) 0⟩
theorem spM_ok (S : Nat → Prop) (xs : List SlE) (d : List Pt) : (spM S xs d).ok := ⟨⟨none, 0, rfl⟩, fun v w1 w2 ⟨A, c, h1, A', c', h2, h3⟩ hb => ⟨A, c, h1, A', c', h2.turn (Turn.of_new (S := fun _ => False) hb) fun _ _ _ e => e, h3.turn (Turn.of_new (S := fun _ => False) hb) fun _ _ _ e => e⟩⟩
end MbP
end Go.Proofs.Ytablkaofaedpeaa
set_option maxRecDepth 100000
namespace Go.Proofs.Ytablkaofaedpeaa
open Go.ChangeShapes Go.WideShapes Go.ChangeAt Go.RowKit
namespace MbP
open MbM
theorem sem_may (s : Ls) (i : Int) : s.sem.may i = s.may i := rfl
theorem sem_wr (s : Ls) (i : Int) (x : Nat → Nat) : (wrL s i x).sem = wrT s.sem i x := by
  unfold wrL wrT
  rw [sem_may]
  by_cases hm : s.may i = true
  · rw [if_pos hm, if_pos hm]
    by_cases hf : s.fails = true
    · rw [if_pos hf, if_pos (show s.sem.fails = true from hf)]
    · rw [if_neg hf, if_neg (show ¬ s.sem.fails = true from hf)]; rfl
  · rw [if_neg hm, if_neg hm]
theorem sem_fl (s : Ls) : (flL s).sem = flT s.sem := by
  unfold flL flT
  by_cases hf : s.fails = true
  · rw [if_pos hf, if_pos (show s.sem.fails = true from hf)]
  · rw [if_neg hf, if_neg (show ¬ s.sem.fails = true from hf)]
    show (⟨s.n, img (s.dur ++ s.log), [], s.marks.map img, s.fails, s.hurt⟩ : St) = ⟨s.n, app (img s.dur) s.log, [], s.marks.map img, s.fails, s.hurt⟩
    rw [img_append]
theorem sem_cr (s : Ls) (picks : List Nat) : (crashL s picks).sem = crash s.sem picks := by
  unfold crashL Ls.sem crash
  simp only [img_append]
theorem sem_se (s : Ls) (i : Int) (x : Nat → Nat) : (setL s i x).sem = seT s.sem i x := by
  unfold setL seT
  rw [sem_may]
  by_cases hm : s.may i = true
  · rw [if_pos hm, if_pos hm]
    show (⟨s.n, img (s.dur ++ [⟨i, x⟩]), oth s.log i, s.marks.map img, s.fails, true⟩ : St) = ⟨s.n, upd (img s.dur) ⟨i, x⟩, s.log.filter fun p => decide (p.i ≠ i), s.marks.map img, s.fails, true⟩
    rw [img_append]
    rfl
  · rw [if_neg hm, if_neg hm]
theorem sem_mk (s : Ls) : (markL s).sem = mkT s.sem := by
  unfold markL mkT
  show (if 64 ≤ s.marks.length then s else _).sem = if 64 ≤ (s.marks.map img).length then s.sem else _
  rw [List.length_map]
  by_cases h : 64 ≤ s.marks.length
  · rw [if_pos h, if_pos h]
  · rw [if_neg h, if_neg h]
    show (⟨s.n, img s.dur, s.log, (s.marks ++ [s.dur ++ s.log]).map img, s.fails, s.hurt⟩ : St) = ⟨s.n, img s.dur, s.log, s.marks.map img ++ [app (img s.dur) s.log], s.fails, s.hurt⟩
    rw [List.map_append, List.map_cons, List.map_nil, img_append]
theorem sem_bk (s : Ls) (n : Int) : (backL s n).sem = bkT s.sem n := by
  unfold backL bkT
  show (if n < 0 ∨ (s.marks.length : Int) ≤ n then s else _).sem = if n < 0 ∨ ((s.marks.map img).length : Int) ≤ n then s.sem else _
  rw [List.length_map]
  by_cases h : n < 0 ∨ (s.marks.length : Int) ≤ n
  · rw [if_pos h, if_pos h]
  · rw [if_neg h, if_neg h]
    have e : img (s.marks.getD n.toNat []) = (s.marks.map img).getD n.toNat fun _ => zero := by
      rw [List.getD_eq_getElem?_getD, List.getD_eq_getElem?_getD, List.getElem?_map]
      cases s.marks[n.toNat]? <;> rfl
    show (⟨s.n, img (s.marks.getD n.toNat []), [], s.marks.map img, s.fails, true⟩ : St) = ⟨s.n, (s.marks.map img).getD n.toNat fun _ => zero, [], s.marks.map img, s.fails, true⟩
    rw [e]
theorem sem_fa (s : Ls) (q : Bool) : (failL s q).sem = fail s.sem q := rfl
theorem sem_made (n : Int) : (Ls.made n).sem = made n := rfl
theorem sem_rdS (s : Ls) (i : Int) : readS s i = rdS s.sem i := by
  unfold readS rdS
  rw [sem_may, seenL_sem]
  rfl
theorem sem_rdE (s : Ls) (i : Int) : readE s i = rdE s.sem i := rfl
theorem sem_lkS (s : Ls) (i : Int) : lookS s i = lkS s.sem i := by
  unfold lookS lkS
  rw [sem_may]
  show (if s.may i = true then _ else _) = if s.may i = true then img s.dur i else zero
  rw [img_find]
theorem sem_lkE (s : Ls) (i : Int) : lookE s i = lkE s.sem i := rfl
theorem sem_flE (s : Ls) : flE s = MbM.flE s.sem := rfl
theorem sem_mkE (s : Ls) : markE s = mkE s.sem := by
  unfold markE mkE
  show _ = if 64 ≤ (s.marks.map img).length then (7 : Int) else 0
  rw [List.length_map]
theorem sem_mkN (s : Ls) : markN s = mkN s.sem := by
  unfold markN mkN
  show _ = if 64 ≤ (s.marks.map img).length then (0 : Int) else (s.marks.map img).length
  rw [List.length_map]
theorem sem_bkE (s : Ls) (n : Int) : backE s n = bkE s.sem n := by
  unfold backE bkE
  show _ = if n < 0 ∨ ((s.marks.map img).length : Int) ≤ n then (2 : Int) else 0
  rw [List.length_map]
/-- How long its lists are. -/
def Ls.le (s : Ls) (k : Nat) : Prop := s.dur.length + s.log.length ≤ k ∧ ∀ m ∈ s.marks, m.length ≤ k
theorem le_mono {s : Ls} {k k' : Nat} (h : s.le k) (hk : k ≤ k') : s.le k' := ⟨Nat.le_trans h.1 hk, fun m hm => Nat.le_trans (h.2 m hm) hk⟩
theorem le_wr {s : Ls} {k : Nat} (h : s.le k) (i : Int) (x : Nat → Nat) : (wrL s i x).le (k + 1) := by
  unfold wrL
  split
  · split
    · exact le_mono h (by omega)
    · exact ⟨by show s.dur.length + (s.log ++ [_]).length ≤ _; rw [List.length_append, List.length_singleton]; have := h.1; omega, fun m hm => Nat.le_succ_of_le (h.2 m hm)⟩
  · exact le_mono h (by omega)
theorem le_fl {s : Ls} {k : Nat} (h : s.le k) : (flL s).le (k + 1) := by
  unfold flL
  split
  · exact le_mono h (by omega)
  · exact ⟨by show (s.dur ++ s.log).length + 0 ≤ _; rw [List.length_append]; have := h.1; omega, fun m hm => Nat.le_succ_of_le (h.2 m hm)⟩
theorem le_cr {s : Ls} {k : Nat} (h : s.le k) (picks : List Nat) : (crashL s picks).le (k + 1) :=
  ⟨by show (s.dur ++ kept s.log picks).length + 0 ≤ _; rw [List.length_append]; have := kept_length s.log picks s.log.length; have := h.1; unfold kept; omega, fun m hm => Nat.le_succ_of_le (h.2 m hm)⟩
theorem le_se {s : Ls} {k : Nat} (h : s.le k) (i : Int) (x : Nat → Nat) : (setL s i x).le (k + 1) := by
  unfold setL
  split
  · refine ⟨?_, fun m hm => Nat.le_succ_of_le (h.2 m hm)⟩
    show (s.dur ++ [_]).length + (oth s.log i).length ≤ _
    rw [List.length_append, List.length_singleton]
    have h1 := h.1
    have h2 : (oth s.log i).length ≤ s.log.length := List.length_filter_le _ _
    omega
  · exact le_mono h (by omega)
theorem le_mk {s : Ls} {k : Nat} (h : s.le k) : (markL s).le (k + 1) := by
  unfold markL
  split
  · exact le_mono h (by omega)
  · refine ⟨Nat.le_succ_of_le h.1, fun m hm => ?_⟩
    rcases List.mem_append.1 hm with hm | hm
    · exact Nat.le_succ_of_le (h.2 m hm)
    · rw [List.mem_singleton] at hm; subst hm; rw [List.length_append]; have := h.1; omega
theorem le_bk {s : Ls} {k : Nat} (h : s.le k) (n : Int) : (backL s n).le (k + 1) := by
  unfold backL
  split
  · exact le_mono h (by omega)
  · refine ⟨?_, fun m hm => Nat.le_succ_of_le (h.2 m hm)⟩
    show (s.marks.getD n.toNat []).length + 0 ≤ _
    rw [List.getD_eq_getElem?_getD]
    cases e : s.marks[n.toNat]? with
    | none => simp
    | some m => have := h.2 m (List.mem_of_getElem? e); show m.length + 0 ≤ _; omega
theorem le_fa {s : Ls} {k : Nat} (h : s.le k) (q : Bool) : (failL s q).le (k + 1) := le_mono (s := s) h (by omega)
end MbP
end Go.Proofs.Ytablkaofaedpeaa
set_option maxRecDepth 100000
namespace Go.Proofs.Ytablkaofaedpeaa
open Go.ChangeShapes Go.WideShapes Go.ChangeAt Go.RowKit
attribute [local go_sem] Gives GivesE
namespace MbP
open MbM
def at' (g : Nat) : Value := .pointer (some ⟨g, 0, none⟩)
/-- rep w g M I k st: in w the pointer to block g is a member st; it turns blocks of M alone, and reads those of M and I; k calls have turned it. -/
abbrev RepT := World → Nat → (Nat → Prop) → (Nat → Prop) → Nat → St → Prop
def outP (rep : RepT) (w : World) (g : Nat) (M I : Nat → Prop) (k : Nat) (st : St) (w' : World) : Prop :=
  ∃ M' I', rep w' g M' I' k st ∧ (∀ b, M' b → M b ∨ w.heap.size ≤ b) ∧ (∀ b, I' b → M b ∨ I b ∨ w.heap.size ≤ b) ∧ Turn M w w'
/-- Of every call but Clean. -/
structure MemD (rep : RepT) : Prop where
  lt : ∀ {w g M I k st}, rep w g M I k st → ∀ b, M b ∨ I b → b < w.heap.size
  frame : ∀ {w w' g M I k st} {T : Nat → Prop}, rep w g M I k st → Turn T w w' → (∀ b, M b ∨ I b → ¬ T b) → rep w' g M I k st
  mono : ∀ {w g M I k k' st}, rep w g M I k st → k ≤ k' → rep w g M I k' st
  own : ∀ {w g M I k st}, rep w g M I k st → ∀ b, M b → ¬ I b
  new : ∀ n : Int, 1 ≤ n → n ≤ 65536 → ∀ w, Calls Try.prog 22 #[.int .i64 n] w fun e w' => ∃ g M I, e = .returned (.tuple #[at' g, .int .i64 0]) ∧ rep w' g M I 0 (made n) ∧ (∀ b, M b ∨ I b → w.heap.size ≤ b) ∧ Below w.heap.size w w'
  bad : ∀ n : Int, ¬ (1 ≤ n ∧ n ≤ 65536) → ∀ w, Calls Try.prog 22 #[.int .i64 n] w fun e w' => e = .returned (.tuple #[.pointer none, .int .i64 2]) ∧ Below w.heap.size w w'
  read : ∀ {w g M I k st}, rep w g M I k st → st.ok → k ≤ 9000 → ∀ i : Int, Calls Try.prog 29 #[at' g, .int .i64 i] w fun e w' => e = .returned (.tuple #[.agg (ar 64 (rdS st i)), .int .i64 (rdE st i)]) ∧ Below w.heap.size w w'
  look : ∀ {w g M I k st}, rep w g M I k st → st.ok → k ≤ 9000 → ∀ i : Int, Calls Try.prog 30 #[at' g, .int .i64 i] w fun e w' => e = .returned (.tuple #[.agg (ar 64 (lkS st i)), .int .i64 (lkE st i)]) ∧ Below w.heap.size w w'
  touched : ∀ {w g M I k st}, rep w g M I k st → Calls Try.prog 31 #[at' g] w fun e w' => e = .returned (.bool st.hurt) ∧ Below w.heap.size w w'
  len : ∀ {w g M I k st}, rep w g M I k st → Calls Try.prog 46 #[at' g] w fun e w' => e = .returned (.int .i64 st.n) ∧ Below w.heap.size w w'
  unflushed : ∀ {w g M I k st}, rep w g M I k st → Calls Try.prog 33 #[at' g] w fun e w' => e = .returned (.int .i64 (st.log.length : Nat)) ∧ Below w.heap.size w w'
  write : ∀ {w g M I k st}, rep w g M I k st → st.ok → k ≤ 9000 → ∀ (i : Int) (x : Nat → Nat), (∀ j, x j < 256) → Calls Try.prog 27 #[at' g, .int .i64 i, .agg (ar 64 x)] w fun e w' => e = .returned (.int .i64 (rdE st i)) ∧ outP rep w g M I (k + 1) (wrT st i x) w'
  flush : ∀ {w g M I k st}, rep w g M I k st → st.ok → k ≤ 9000 → Calls Try.prog 28 #[at' g] w fun e w' => e = .returned (.int .i64 (MbM.flE st)) ∧ outP rep w g M I (k + 1) (flT st) w'
  writeF : ∀ {w g M I k st}, rep w g M I k st → st.ok → k ≤ 9000 → st.fails = true → ∀ (i : Int) (x : Nat → Nat), (∀ j, x j < 256) → Calls Try.prog 27 #[at' g, .int .i64 i, .agg (ar 64 x)] w fun e w' => e = .returned (.int .i64 (rdE st i)) ∧ outP rep w g M I k st w'
  flushF : ∀ {w g M I k st}, rep w g M I k st → st.ok → k ≤ 9000 → st.fails = true → Calls Try.prog 28 #[at' g] w fun e w' => e = .returned (.int .i64 10) ∧ outP rep w g M I k st w'
  crash : ∀ {w g M I k st}, rep w g M I k st → st.ok → k ≤ 9000 → ∀ (P : Option Addr) (picks : List Nat) (pn pc : Nat), Arg w P picks pn pc → (∀ b o, 0 < picks.length → P = some ⟨b, o, none⟩ → ¬ (M b ∨ I b)) → Calls Try.prog 77 #[at' g, .slice P pn pc] w fun e w' => e = .returned (.int .i64 0) ∧ outP rep w g M I (k + 1) (crash st picks) w'
  set : ∀ {w g M I k st}, rep w g M I k st → st.ok → k ≤ 9000 → ∀ (i : Int) (x : Nat → Nat), (∀ j, x j < 256) → Calls Try.prog 65 #[at' g, .int .i64 i, .agg (ar 64 x)] w fun e w' => e = .returned (.int .i64 (lkE st i)) ∧ outP rep w g M I (k + 1) (seT st i x) w'
  mark : ∀ {w g M I k st}, rep w g M I k st → st.ok → k ≤ 9000 → Calls Try.prog 67 #[at' g] w fun e w' => e = .returned (.tuple #[.int .i64 (mkN st), .int .i64 (mkE st)]) ∧ outP rep w g M I (k + 1) (mkT st) w'
  back : ∀ {w g M I k st}, rep w g M I k st → st.ok → k ≤ 9000 → ∀ n : Int, Calls Try.prog 69 #[at' g, .int .i64 n] w fun e w' => e = .returned (.int .i64 (bkE st n)) ∧ outP rep w g M I (k + 1) (bkT st n) w'
  fail : ∀ {w g M I k st}, rep w g M I k st → ∀ q : Bool, Calls Try.prog 71 #[at' g, .bool q] w fun e w' => e = .returned (.int .i64 0) ∧ outP rep w g M I (k + 1) (fail st q) w'
  copy : ∀ {w g M I k st}, rep w g M I k st → st.ok → k ≤ 9000 → Calls Try.prog 26 #[at' g] w fun e w' => ∃ g2 M2 I2, e = .returned (at' g2) ∧ rep w' g2 M2 I2 k st ∧ (∀ b, M2 b → w.heap.size ≤ b) ∧ (∀ b, I2 b → I b ∨ w.heap.size ≤ b) ∧ Below w.heap.size w w'
structure MemC (rep : RepT) : Prop extends MemD rep where
  clean : ∀ {w g M I k st}, rep w g M I k st → Calls Try.prog 95 #[at' g] w fun e w' => e = .returned (.tuple #[]) ∧ outP rep w g M I (k + 1) (clean st) w'
section
variable {rep : RepT} {B : Nat} {w w' : World} {m : Nat} {M I : Nat → Prop} {k : Nat} {st st' : St} {g : Nat} {L : Nat → Prop} {k2 : Nat} {st2 : St}
/-- What may be turned, and what may come to what is laid. -/
def Grew (w : World) (M I L : Nat → Prop) (g : Nat) (w' : World) (M' I' L' : Nat → Prop) : Prop :=
  (∀ b, M' b → M b ∨ w.heap.size ≤ b) ∧ (∀ b, I' b → M b ∨ I b ∨ w.heap.size ≤ b) ∧ (∀ b, L' b → L b ∨ w.heap.size ≤ b) ∧ Turn (fun b => M b ∨ b = g) w w'
theorem Grew.refl (w : World) (M I L : Nat → Prop) (g : Nat) : Grew w M I L g w M I L := ⟨fun _ h => .inl h, fun _ h => .inr (.inl h), fun _ h => .inl h, Turn.refl _ _⟩
theorem Grew.trans {w2 : World} {M' I' L' M2 I2 L2 : Nat → Prop} (h : Grew w M I L g w' M' I' L') (h2 : Grew w' M' I' L' g w2 M2 I2 L2) : Grew w M I L g w2 M2 I2 L2 := by
  have hs := h.2.2.2.size
  refine ⟨fun b hb => ?_, fun b hb => ?_, fun b hb => ?_, h.2.2.2.trans h2.2.2.2 fun b hb => ?_⟩
  · rcases h2.1 b hb with e | e
    · exact h.1 b e
    · exact .inr (Nat.le_trans hs e)
  · rcases h2.2.1 b hb with e | e | e
    · rcases h.1 b e with e | e
      · exact .inl e
      · exact .inr (.inr e)
    · exact h.2.1 b e
    · exact .inr (.inr (Nat.le_trans hs e))
  · rcases h2.2.2.1 b hb with e | e
    · exact h.2.2.1 b e
    · exact .inr (Nat.le_trans hs e)
  · rcases hb with e | e
    · exact (h.1 b e).imp .inl id
    · exact .inl (.inr e)
theorem Grew.below {hb : Below w.heap.size w w'} : Grew w M I L g w' M I L := ⟨fun _ h => .inl h, fun _ h => .inr (.inl h), fun _ h => .inl h, Turn.of_new hb⟩
end
end MbP
end Go.Proofs.Ytablkaofaedpeaa
