/-
  As XRegRel; what the world holds of a value is kept by those operations alone that it does not wait for.
  A region that draws its order, in which several operations write: the class of worlds hangs on which of them have come up (D), and on nothing else.
  A region that draws its order, whose values may hang on the order and on what a call makes of the world: of each operation's value one states what it is like (S), what the world then holds of it (D, kept by what the others do: K), and which operations have come up (C).
  Rows of bytes of any type compared; loaded, in regions whose values hang on their order.
  Regions whose values hang on their order: known values, and operations whose value is only known to be of a kind, with what the world holds of it.
  Lists of elements: a literal of one element; a struct's literal; one element that stands in a new block.
  Lists of elements: an append to a slice that is full: a row of its own.
  A region that draws its order: of each operation's value one states what it is like (S); of the worlds what holds by which operations have come up, and by their values (C).
  A region that draws its order and makes one new variable ('x := f(y)', the call no lone one): its address hangs on the order; all else does not.
  Rows of n bytes loaded in a drawn region that makes a variable.
  Structs and arrays of any cells, loaded and stored whole.
  Results that lie in a row of bytes and in slots; a row of zeros built; a row of one kind of bytes, zero.
  '==' of structs whose fields are rows of bytes.
  What a cell holds, as a value: a count and a label; laid, loaded, compared.
  Lists of elements in a block of their own: read off ranges; several cells stored; cut; cleared.
  The document's cell: what stands in memory of it, and its calls.
  The document's cell: New, Advance, Copy, Same.
  A region in the text's order, walked as one that draws it (a class of worlds is handed on; guards are read off).
  What is wanted of the program's cell: the contracts of its calls, over whatever it lays in memory; a cell alone; the law's works.
  A bus in plain words: members, a cell, steps, what went over it; nothing of the program stands here.
  The document's lists of sectors that were put somewhere: what one says of a sector last; two of them joined.
  The document's member: what stands in memory of it; what it tells of a sector.
  The document's member: Read, Look, Write, Flush.
-/
import Derived.Test.YtklmjdhhnnanoaaGreatDoorMrg1
import Derived.Deep.WholeRow
import Derived.Laws.IdiomCopy
set_option linter.unusedVariables false
set_option linter.unusedSimpArgs false
set_option maxRecDepth 100000
namespace Go.Proofs.YtklmjdhhnnanoaaGreatDoor
open Go.ChangeShapes Go.WideShapes Go.ChangeAt Go.RowKit
theorem Own.beside {e : TypeId} {k : IntKind} {w w' : World} {B B2 : Nat} {v u : Value} {l m : List Nat} (h : Own e k w B v l) (hu : Own e k w B2 u m) (hg : w.grownBy w' u.ownBlock) (hu' : Own e k w' B2 u m) (hlm : l.length ≤ m.length) : Own e k w' B v l := by
  by_cases hne : Apart v u
  · exact h.keep hg hne
  · rcases h.2 with ⟨rfl, h0⟩ | ⟨g, cap, cur, rfl, hB, hgc, hnc, hcm, hcs, ht⟩
    · rw [List.eq_nil_of_length_eq_zero h0]
      exact Own.nil
    · rcases hu.2 with ⟨rfl, _⟩ | ⟨g2, cap2, cur2, rfl, hB2, hgc2, hnc2, hcm2, hcs2, ht2⟩
      · exact absurd (Apart.nil _) hne
      · have hgg : g2 = g := by
          by_cases e' : g2 = g
          · exact e'
          · exact absurd (fun x hx hx2 => e' (by
              have h1 : g = x := Option.some.inj hx
              have h2 : g2 = x := Option.some.inj hx2
              rw [h1, h2])) hne
        subst hgg
        rw [hgc] at hgc2
        cases hgc2
        rcases hu'.2 with ⟨e', _⟩ | ⟨g3, cap3, cur3, hv3, hB3, hgc3, hnc3, hcm3, hcs3, ht3⟩
        · cases e'
        · simp only [Value.slice.injEq, Option.some.injEq, Addr.mk.injEq, and_true] at hv3
          obtain ⟨rfl, _, rfl⟩ := hv3
          have hcap : cap2 = cap := by omega
          subst hcap
          refine ⟨h.1, .inr ⟨_, _, cur3, rfl, hB, hgc3, hnc, hcm, hcs3, ?_⟩⟩
          rw [Nat.mul_one] at ht ht2 ht3 ⊢
          have h3 : (cur3.toList.take m.length).take l.length = (cur.toList.take m.length).take l.length := by rw [ht3, ht2]
          rw [List.take_take, List.take_take, Nat.min_eq_left hlm, ht] at h3
          exact h3
section
variable {P : Program} {ops : Array Oper}
end
end Go.Proofs.YtklmjdhhnnanoaaGreatDoor
set_option maxRecDepth 100000
namespace Go.Proofs.YtklmjdhhnnanoaaGreatDoor
section
variable {P : Program} {ops : Array Oper}
def upB (d : Nat → Bool) (k : Nat) : Nat → Bool := fun j => if j = k then true else d j
def wpM (P : Program) (ops : Array Oper) (st : Nat → Bool) (D : (Nat → Bool) → World → Prop) (Q : Act → Prop) : Nat → List Oper → Act → Prop
  | _, [], a => Q a
  | k, o :: rest, a => ∃ v, ((Region.wanted o (yielded ops a.tmps) = true ∧ ((st k = true ∧ ∀ d w, d k = false → D d w → Gives P o a w v (D (upB d k))) ∨ (st k = false ∧ ∀ d w, D d w → Gives P o a w v (D d)))) ∨
      (Region.wanted o (yielded ops a.tmps) = false ∧ st k = false ∧ v = undef)) ∧ wpM P ops st D Q (k + 1) rest (a.put o.dst v)
section
variable {D : (Nat → Bool) → World → Prop} {Qk : Act → Prop} {o : Oper} {rest : List Oper} {a : Act} {v : Value} {k : Nat} {st : Nat → Bool}
theorem wpM_val (hk : st k = false) (hw : Region.wanted o (yielded ops a.tmps) = true) (h1 : ∀ d w, D d w → Gives P o a w v (D d)) (h2 : wpM P ops st D Qk (k + 1) rest (a.put o.dst v)) : wpM P ops st D Qk k (o :: rest) a :=
  ⟨v, .inl ⟨hw, .inr ⟨hk, h1⟩⟩, h2⟩
theorem wpM_put (hk : st k = true) (hw : Region.wanted o (yielded ops a.tmps) = true) (h1 : ∀ d w, d k = false → D d w → Gives P o a w v (D (upB d k))) (h2 : wpM P ops st D Qk (k + 1) rest (a.put o.dst v)) : wpM P ops st D Qk k (o :: rest) a :=
  ⟨v, .inl ⟨hw, .inl ⟨hk, h1⟩⟩, h2⟩
end
theorem wpM_vals {st : Nat → Bool} {D : (Nat → Bool) → World → Prop} {Qk : Act → Prop} : ∀ (l : List Oper) (k : Nat) (a : Act), wpM P ops st D Qk k l a → ∃ vals : Nat → Value, Qk (lexF l vals l.length a) ∧
    ∀ i o, l[i]? = some o → ((Region.wanted o (yielded ops (lexF l vals i a).tmps) = true ∧ ((st (k + i) = true ∧ ∀ d w, d (k + i) = false → D d w → Gives P o (lexF l vals i a) w (vals i) (D (upB d (k + i)))) ∨ (st (k + i) = false ∧ ∀ d w, D d w → Gives P o (lexF l vals i a) w (vals i) (D d)))) ∨
      (Region.wanted o (yielded ops (lexF l vals i a).tmps) = false ∧ st (k + i) = false ∧ vals i = undef))
  | [], _, a, h => ⟨fun _ => undef, h, fun i o hi => by simp at hi⟩
  | o :: l, k, a, h => by
    obtain ⟨v, h1, h2⟩ := h
    obtain ⟨vals, hq, hs⟩ := wpM_vals l (k + 1) _ h2
    refine ⟨fun j => match j with | 0 => v | j + 1 => vals j, ?_, fun i o' hi => ?_⟩
    · rw [List.length_cons, lexF_cons]; exact hq
    · cases i with
      | zero =>
        simp only [List.getElem?_cons_zero, Option.some.injEq] at hi
        subst hi
        exact h1
      | succ i =>
        rw [lexF_cons, show k + (i + 1) = k + 1 + i by omega]
        exact hs i o' (by simpa using hi)
theorem gives_imp {o : Oper} {a : Act} {w : World} {v : Value} {R R' : World → Prop} (h : Gives P o a w v R) (hr : ∀ w', R w' → R' w') : Gives P o a w v R' := by
  unfold Gives at *
  generalize (execOp a.eval o).run P w = r at *
  cases r with
  | ok n w' =>
    cases n <;> simp only at h ⊢
    case value u => exact ⟨h.1, hr _ h.2⟩
    case skip => exact ⟨h.1, hr _ h.2⟩
    case enter f args => exact h.mono fun e w'' ⟨he, hR⟩ => ⟨he, hr _ hR⟩
  | halt x w' => exact h
theorem wp_region_set {id : Nat} {Q : Exit → Act → World → Prop} {D : (Nat → Bool) → World → Prop} {a : Act} {w : World} {l : List Oper} (st : Nat → Bool) (n : Nat) (hst : ∀ j, st j = true → j < n) (hm : P.follows .mixedOrders = true) (ht : tidy l.toArray = true) (hB : tailB l.toArray n = true)
    (hirr : ∀ d d' w, (∀ j, st j = true → d j = d' j) → D d w → D d' w) (hC : D (fun _ => false) w.drew)
    (h : wpM P l.toArray st D (fun a' => ∀ w', D (fun _ => true) w' → wpList P l.toArray Q (l.drop n) a' w') 0 (l.take n) a) : (Code.region id l.toArray true).wp P Q a w := by
  obtain ⟨vals, hq, hs⟩ := wpM_vals _ _ _ h
  refine region_core (Γ := Unit) (C := fun _ L w => D (fun j => L.getD j false) w) n hm ht hB () (hirr _ _ _ (fun j _ => (getD_replicate_false _ j).symm) hC) (fun _ => vals) (fun i o hi γ L w hsz hr hC' => ⟨(), fun _ _ => rfl, ?_⟩)
    (fun _ L w' hall hC' => hq w' (hirr _ _ _ (fun j hj => hall j (hst j hj)) hC'))
  have hun := getD_both (mem_ready.1 hr).1
  have hlt : i < L.size := by
    obtain ⟨o', ho', _⟩ := (mem_ready.1 hr).2
    have := (Array.getElem?_eq_some_iff.1 ho').1
    simp at this; omega
  rcases hs i o hi with ⟨h1, ⟨h2, h3⟩ | ⟨h2, h3⟩⟩ | ⟨h1, h2, h3⟩
  · rw [Nat.zero_add] at h2 h3
    refine .inl ⟨h1, gives_imp (h3 _ w hun hC') fun w' hw' => hirr _ _ _ (fun j _ => ?_) hw'⟩
    unfold upB
    by_cases e : j = i
    · subst e; rw [if_pos rfl]; simp [hlt]
    · rw [if_neg e, getD_set_ne false (Ne.symm e)]
  · rw [Nat.zero_add] at h2
    refine .inl ⟨h1, gives_imp (h3 _ w hC') fun w' hw' => hirr _ _ _ (fun j hj => ?_) hw'⟩
    have e : j ≠ i := fun e => by subst e; rw [h2] at hj; cases hj
    rw [getD_set_ne false (Ne.symm e)]
  · rw [Nat.zero_add] at h2
    refine .inr ⟨h1, h3, hirr _ _ _ (fun j hj => ?_) hC'⟩
    have e : j ≠ i := fun e => by subst e; rw [h2] at hj; cases hj
    rw [getD_set_ne false (Ne.symm e)]
end
end Go.Proofs.YtklmjdhhnnanoaaGreatDoor
set_option maxRecDepth 100000
namespace Go.Proofs.YtklmjdhhnnanoaaGreatDoor
open Go.RowKit
def GivesE (P : Program) (o : Oper) (a : Act) (w : World) (R : Value → World → Prop) : Prop :=
  match (execOp a.eval o).run P w with
  | .ok (.value u) w' => R u w'
  | .ok .skip w' => R undef w'
  | .ok (.enter f args) w' => Calls P f args w' fun e w'' => ∃ v, e = .returned v ∧ R v w''
  | _ => False
theorem wp_of_givesE {P : Program} {o : Oper} {a : Act} {w : World} {R : Value → World → Prop} {K : Act → World → Prop} {Q : Exit → Act → World → Prop}
    (h : GivesE P o a w R) (hK : ∀ v w', R v w' → K (a.put o.dst v) w') : o.wp P a w K Q := by
  unfold GivesE at h
  unfold Oper.wp
  generalize (execOp a.eval o).run P w = r at *
  cases r with
  | ok n w' =>
    cases n <;> simp only at h <;> simp only [Oper.upon]
    case value u => exact hK _ _ h
    case skip => exact hK _ _ h
    case enter f args => exact h.mono fun e w'' ⟨v, he, hr⟩ => by subst he; exact hK _ _ hr
  | halt x w' => cases h
theorem givesE_mono {P : Program} {o : Oper} {a : Act} {w : World} {R R' : Value → World → Prop} (h : GivesE P o a w R) (hr : ∀ v w', R v w' → R' v w') : GivesE P o a w R' := by
  unfold GivesE at *
  generalize (execOp a.eval o).run P w = r at *
  cases r with
  | ok n w' =>
    cases n <;> simp only at h ⊢
    case value u => exact hr _ _ h
    case skip => exact hr _ _ h
    case enter f args => exact h.mono fun e w'' ⟨v, he, hR⟩ => ⟨v, he, hr _ _ hR⟩
  | halt x w' => exact h
section
variable {P : Program} {ops : Array Oper}
theorem head_anyE {Γ : Type} {n g : Nat} {Q : Exit → Act → World → Prop} {vals : Γ → Nat → Value} {C : Γ → Array Bool → World → Prop} {a0 : Act} (ht : tidy ops = true) (hn : n ≤ ops.size)
    (hstep : ∀ k o, k < n → ops[k]? = some o → ∀ γ L w, L.size = ops.size → Closed ops L → k ∈ Region.ready .any ops L → C γ L w →
      ((Region.wanted o (yielded ops (fr ops (vals γ) (fun j => decide (j < k)) ops.size a0).tmps) = true ∧ GivesE P o (fr ops (vals γ) (fun j => decide (j < k)) ops.size a0) w (fun v w' => ∃ γ', (∀ j, L.getD j false = true → vals γ j = vals γ' j) ∧ vals γ' k = v ∧ C γ' (L.setIfInBounds k true) w')) ∨
      (Region.wanted o (yielded ops (fr ops (vals γ) (fun j => decide (j < k)) ops.size a0).tmps) = false ∧ ∃ γ', (∀ j, L.getD j false = true → vals γ j = vals γ' j) ∧ vals γ' k = undef ∧ C γ' (L.setIfInBounds k true) w)))
    (hsink : ∀ L, L.size = ops.size → Closed ops L → (∀ t, n ≤ t → t < ops.size → L.getD t true = false) → ∀ i, i < n → L.getD i true = false → ∀ t ∈ Region.ready .any ops L, t < n)
    (htail : ∀ γ L w, L.size = ops.size → (∀ i, i < n → L.getD i false = true) → (∀ t, n ≤ t → t < ops.size → L.getD t true = false) → C γ L w →
      wpAny P .any ops Q g L (fr ops (vals γ) (fun j => decide (j < n)) ops.size a0) w) :
    ∀ (f : Nat) (γ : Γ) (L : Array Bool) (w : World), L.size = ops.size → Closed ops L → (∀ t, n ≤ t → t < ops.size → L.getD t true = false) → cnt n L = f → C γ L w →
      wpAny P .any ops Q (f + g) L (fr ops (vals γ) (fun j => L.getD j false) ops.size a0) w
  | 0, γ, L, w, hs, hcl, htl, hc, hC => by
    have hall : ∀ i, i < n → L.getD i false = true := fun i hi => by
      have h1 : ∀ j ∈ List.range n, ¬ (!L.getD j true) = true := List.countP_eq_zero.1 hc
      have h2 := h1 i (List.mem_range.2 hi)
      exact getD_up (by omega) (by simpa using h2)
    rw [Nat.zero_add, fr_congr (l' := fun j => decide (j < n)) fun j hj => ?_]
    · exact htail γ L w hs hall htl hC
    · by_cases hjn : j < n
      · rw [hall j hjn]; simp [hjn]
      · rw [getD_both (htl j (by omega) hj)]; simp [hjn]
  | f + 1, γ, L, w, hs, hcl, htl, hc, hC => by
    rw [show f + 1 + g = (f + g) + 1 by omega]
    -- the least that has not come up may come up
    have hex : ∃ i, i < n ∧ L.getD i true = false := by
      have hpos : 0 < (List.range n).countP fun i => !L.getD i true := by unfold cnt at hc; omega
      obtain ⟨i, hi, h1⟩ := List.countP_pos_iff.1 hpos
      exact ⟨i, List.mem_range.1 hi, by simpa using h1⟩
    have hready : ∃ i, i ∈ Region.ready .any ops L := by
      obtain ⟨i, hi, hun⟩ := hex
      induction i using Nat.strongRecOn with
      | _ i ih =>
        by_cases hless : ∃ j, j < i ∧ L.getD j true = false
        · obtain ⟨j, hj, hjun⟩ := hless
          exact ih j hj (by omega) hjun
        · have hio : i < ops.size := by omega
          refine ⟨i, mem_ready.2 ⟨hun, ops[i], Array.getElem?_eq_getElem hio, fun e he hb => ?_⟩⟩
          have hlt := tidy_edge ht (Array.getElem?_eq_getElem hio) e he hb
          refine getD_up (by omega) ?_
          cases h0 : L.getD e.on true with
          | true => rfl
          | false => exact absurd ⟨e.on, hlt, h0⟩ hless
    obtain ⟨i0, hi0, hun0⟩ := hex
    refine ⟨fun h0 => (by obtain ⟨i, hi⟩ := hready; rw [h0] at hi; cases hi), fun i hi => ?_⟩
    have hin : i < n := hsink L hs hcl htl i0 hi0 hun0 i hi
    obtain ⟨hun, o, ho, _⟩ := mem_ready.1 hi
    have hio : i < ops.size := by omega
    obtain ⟨hex1, hex2⟩ := exec_same (vals := vals γ) (n := ops.size) (a := a0) ht ho hcl hi
    have hst := hstep i o hin ho γ L w hs hcl hi hC
    have hnext : ∀ γ' w', (∀ j, L.getD j false = true → vals γ j = vals γ' j) → C γ' (L.setIfInBounds i true) w' → wpAny P .any ops Q (f + g) (L.setIfInBounds i true) ((fr ops (vals γ) (fun j => L.getD j false) ops.size a0).put o.dst (vals γ' i)) w' := fun γ' w' hag hC' => by
      have ih := head_anyE (g := g) (Q := Q) ht hn hstep hsink htail f γ' (L.setIfInBounds i true) w' (by simpa using hs) (closed_set hcl hi) (fun t h1 h2 => by rw [getD_set_ne true (by omega)]; exact htl t h1 h2)
        (by
          have h1 : cnt n (L.setIfInBounds i true) + 1 = cnt n L := by
            refine countP_one (i := i) (by simpa using hun) ?_ (fun j hj => by rw [getD_set_ne true (Ne.symm hj)]) List.nodup_range (List.mem_range.2 hin)
            simp [show i < L.size by omega]
          omega) hC'
      rw [fr_congr (l' := fun j => L.getD j false || j == i) fun j _ => ?_, fr_set ht (getD_both hun) hio, ← fr_vals fun j _ hj => hag j hj] at ih
      · unfold dstAt at ih; rw [ho] at ih; exact ih
      · by_cases e : j = i
        · subst e; simp [show j < L.size by omega]
        · have : (j == i) = false := by simpa using e
          rw [getD_set_ne false (Ne.symm e), this, Bool.or_false]
    unfold wpOp
    simp only [ho]
    rcases hst with ⟨hw, hg⟩ | ⟨hw, γ', hag, hv, hC'⟩
    · rw [hex2, if_pos hw]
      refine .inl (wp_of_givesE (R := fun v w' => ∃ γ', (∀ j, L.getD j false = true → vals γ j = vals γ' j) ∧ vals γ' i = v ∧ C γ' (L.setIfInBounds i true) w') ?_ fun v w' ⟨γ', hag, hv, hC'⟩ => by rw [← hv]; exact hnext γ' w' hag hC')
      unfold GivesE at hg ⊢
      rw [hex1]; exact hg
    · rw [hex2, hw, if_neg (by simp)]
      rw [← hv]
      exact hnext γ' w hag hC'

theorem region_coreE {id : Nat} {Q : Exit → Act → World → Prop} {Γ : Type} {C : Γ → Array Bool → World → Prop} {a : Act} {w : World} {l : List Oper} (n : Nat) (hm : P.follows .mixedOrders = true) (ht : tidy l.toArray = true) (hB : tailB l.toArray n = true)
    (γ0 : Γ) (hC : C γ0 (Array.replicate l.length false) w.drew) (vals : Γ → Nat → Value)
    (hs : ∀ i o, (l.take n)[i]? = some o → ∀ γ L w, L.size = l.length → i ∈ Region.ready .any l.toArray L → C γ L w →
      ((Region.wanted o (yielded l.toArray (lexF (l.take n) (vals γ) i a).tmps) = true ∧ GivesE P o (lexF (l.take n) (vals γ) i a) w (fun v w' => ∃ γ', (∀ j, L.getD j false = true → vals γ j = vals γ' j) ∧ vals γ' i = v ∧ C γ' (L.setIfInBounds i true) w')) ∨
      (Region.wanted o (yielded l.toArray (lexF (l.take n) (vals γ) i a).tmps) = false ∧ ∃ γ', (∀ j, L.getD j false = true → vals γ j = vals γ' j) ∧ vals γ' i = undef ∧ C γ' (L.setIfInBounds i true) w)))
    (hq : ∀ γ L w', (∀ i, i < n → L.getD i false = true) → C γ L w' → wpList P l.toArray Q (l.drop n) (lexF (l.take n) (vals γ) (l.take n).length a) w') : (Code.region id l.toArray true).wp P Q a w := by
  refine wp_region_any hm ?_
  have hn : n ≤ l.toArray.size := by
    simp only [tailB, Bool.or_eq_true, Bool.and_eq_true, decide_eq_true_eq] at hB
    rcases hB with h | h <;> omega
  have hlen : (l.take n).length = n := by rw [List.length_take]; simp at hn; omega
  simp only [hlen] at hq
  have hfr : ∀ (γ : Γ) i, i ≤ n → lexF (l.take n) (vals γ) i a = fr l.toArray (vals γ) (fun j => decide (j < i)) l.toArray.size a := fun γ i hi => by
    have := lexF_fr (ops := l.toArray) (vals := vals γ) (a := a) hn i hi
    simpa using this
  have H := head_anyE (P := P) (ops := l.toArray) (n := n) (g := l.toArray.size - n) (Q := Q) (vals := vals) (C := C) (a0 := a) ht hn
    (fun k o hk ho γ L w' hsz _ hr hC' => by
      have hko : (l.take n)[k]? = some o := by rw [List.getElem?_take_of_lt hk]; simpa using ho
      have := hs k o hko γ L w' (by simpa using hsz) hr hC'
      rwa [hfr γ k (by omega)] at this)
    (fun L hL hcl htl i hi hun t hr => by
      obtain ⟨hunt, o, ho, _⟩ := mem_ready.1 hr
      have hto : t < l.toArray.size := (Array.getElem?_eq_some_iff.1 ho).1
      simp only [tailB, Bool.or_eq_true, Bool.and_eq_true, decide_eq_true_eq] at hB
      rcases hB with hB | ⟨⟨⟨hB1, hB2⟩, hB3⟩, _⟩
      · omega
      · rcases Nat.lt_or_ge t n with h | h
        · exact h
        · exact absurd hr (tail_waits hB2 hB3 hB1 ⟨hL, hcl, htl⟩ _ i rfl hi hun t h))
    (fun γ L w' hL hall htl hC' => by
      rw [← hfr γ n (Nat.le_refl n)]
      have hlist := hq γ L w' hall hC'
      have hLe : L = tailL n (l.toArray.size - n) := by
        apply Array.ext_getElem?
        intro j
        unfold tailL
        rw [show ((List.replicate n true ++ List.replicate (l.toArray.size - n) false).toArray)[j]? = (List.replicate n true ++ List.replicate (l.toArray.size - n) false)[j]? from List.getElem?_toArray .., List.getElem?_append]
        simp only [List.length_replicate]
        by_cases hj : j < n
        · have := hall j hj
          rw [if_pos hj]
          simp [show j < L.size by omega] at this
          simp [hj, show j < L.size by omega, this]
        · rw [if_neg hj]
          by_cases hj2 : j < l.toArray.size
          · have := htl j (by omega) hj2
            simp [show j < L.size by omega] at this
            rw [Array.getElem?_eq_getElem (by omega), this, List.getElem?_replicate, if_pos (by omega)]
          · rw [Array.getElem?_eq_none (by omega), List.getElem?_replicate, if_neg (by omega)]
      simp only [tailB, Bool.or_eq_true, Bool.and_eq_true, decide_eq_true_eq] at hB
      rcases hB with hB | ⟨⟨⟨hB1, hB2⟩, hB3⟩, hB4⟩
      · rw [show l.toArray.size - n = 0 by omega]
        have hd : l.drop n = [] := List.drop_eq_nil_of_le (by simp at hB; omega)
        rw [hd] at hlist
        refine ⟨?_, hlist⟩
        apply List.eq_nil_iff_forall_not_mem.2
        intro t hr
        obtain ⟨hunt, o, ho, _⟩ := mem_ready.1 hr
        have hto : t < l.toArray.size := (Array.getElem?_eq_some_iff.1 ho).1
        have := hall t (by omega)
        rw [getD_both hunt] at this
        cases this
      · have hdl : (l.drop n).length = l.toArray.size - n := by simp
        have := wpAny_of_seq (P := P) (ops := l.toArray) (md := .any) (Q' := Q) (l.drop n) n L _ w' (fun j => by simp [List.getElem?_drop]) (by rw [hdl, hLe]; exact hB4) hlist
        rwa [hdl] at this)
    (cnt n (Array.replicate l.toArray.size false)) γ0 (Array.replicate l.toArray.size false) w.drew (by simp) (fun j o _ hl => by rw [getD_replicate_false] at hl; cases hl)
    (fun t _ hts => getD_in (by simpa using hts) (getD_replicate_false _ _)) rfl (by simpa using hC)
  have hc : cnt n (Array.replicate l.toArray.size false) = n := by
    unfold cnt
    have : ∀ i ∈ List.range n, (!(Array.replicate l.toArray.size false).getD i true) = true := fun i hi => by
      have hi' := List.mem_range.1 hi
      have : i < l.length := by simp at hn; omega
      simp [this]
    rw [List.countP_eq_length.2 this, List.length_range]
  rw [hc, show n + (l.toArray.size - n) = l.toArray.size by omega] at H
  have hz : fr l.toArray (vals γ0) (fun j => (Array.replicate l.toArray.size false).getD j false) l.toArray.size a = a := by
    rw [fr_congr (l' := fun j => decide (j < 0)) fun j _ => by rw [getD_replicate_false]; simp]
    have := fr_stop (ops := l.toArray) (vals := vals γ0) (k := 0) l.toArray.size a
    rw [Nat.zero_add] at this
    exact this
  rw [hz] at H
  exact H

def wpE (P : Program) (ops : Array Oper) (S : Nat → Value → Prop) (D : Nat → (Nat → Value) → World → Prop) (K : Nat → (Nat → Value) → World → World → Prop) (C : (Nat → Bool) → World → Prop) (Q : (Nat → Value) → Act → Prop) : Nat → (Nat → Value) → List Oper → Act → Prop
  | _, vs, [], a => Q vs a
  | k, vs, o :: rest, a => ((Region.wanted o (yielded ops a.tmps) = true ∧ ∀ d w, d k = false → C d w → (∀ j, Region.waitsFor .any ops k j = true → D j vs w) →
      GivesE P o a w fun v w' => S k v ∧ C (upB d k) w' ∧ K k vs w w' ∧ D k (updV vs k v) w') ∨
      (Region.wanted o (yielded ops a.tmps) = false ∧ S k undef ∧ (∀ d w, C d w → C (upB d k) w) ∧ ∀ w, D k (updV vs k undef) w)) ∧ (S k (vs k) → wpE P ops S D K C Q (k + 1) vs rest (a.put o.dst (vs k)))
theorem wpE_at {S : Nat → Value → Prop} {D : Nat → (Nat → Value) → World → Prop} {K : Nat → (Nat → Value) → World → World → Prop} {C : (Nat → Bool) → World → Prop} {Qk : (Nat → Value) → Act → Prop} {vs : Nat → Value} (hS : ∀ j, S j (vs j)) : ∀ (l : List Oper) (k : Nat) (a : Act), wpE P ops S D K C Qk k vs l a →
    Qk vs (lexF l (fun i => vs (k + i)) l.length a) ∧ ∀ i o, l[i]? = some o →
      ((Region.wanted o (yielded ops (lexF l (fun i => vs (k + i)) i a).tmps) = true ∧ ∀ d w, d (k + i) = false → C d w → (∀ j, Region.waitsFor .any ops (k + i) j = true → D j vs w) →
        GivesE P o (lexF l (fun i => vs (k + i)) i a) w fun v w' => S (k + i) v ∧ C (upB d (k + i)) w' ∧ K (k + i) vs w w' ∧ D (k + i) (updV vs (k + i) v) w') ∨
      (Region.wanted o (yielded ops (lexF l (fun i => vs (k + i)) i a).tmps) = false ∧ S (k + i) undef ∧ (∀ d w, C d w → C (upB d (k + i)) w) ∧ ∀ w, D (k + i) (updV vs (k + i) undef) w))
  | [], k, a, h => ⟨h, fun i o hi => by simp at hi⟩
  | o :: l, k, a, h => by
    obtain ⟨h1, h2⟩ := h
    obtain ⟨hq, hs⟩ := wpE_at hS l (k + 1) _ (h2 (hS k))
    have e : (fun i => vs (k + 1 + i)) = fun i => vs (k + (i + 1)) := funext fun i => by rw [show k + 1 + i = k + (i + 1) by omega]
    rw [e] at hq hs
    refine ⟨?_, fun i o' hi => ?_⟩
    · rw [List.length_cons, lexF_cons]; exact hq
    · cases i with
      | zero =>
        simp only [List.getElem?_cons_zero, Option.some.injEq] at hi
        subst hi
        exact h1
      | succ i =>
        rw [lexF_cons, show k + (i + 1) = k + 1 + i by omega]
        exact hs i o' (by simpa using hi)
theorem wp_region_ex {id : Nat} {Q : Exit → Act → World → Prop} {C : (Nat → Bool) → World → Prop} {S : Nat → Value → Prop} {D : Nat → (Nat → Value) → World → Prop} {K : Nat → (Nat → Value) → World → World → Prop} {a : Act} {w : World} {l : List Oper} (n : Nat)
    (hm : P.follows .mixedOrders = true) (ht : tidy l.toArray = true) (hB : tailB l.toArray n = true)
    (v0 : Nat → Value) (h0 : ∀ j, S j (v0 j)) (hD : ∀ i j vs w w', i < n → j ≠ i → Region.waitsFor .any l.toArray j i = false → D j vs w → K i vs w w' → D j vs w')
    (hL : ∀ j i vs v w, j ≠ i → Region.waitsFor .any l.toArray j i = false → D j vs w → D j (updV vs i v) w)
    (hC : C (fun _ => false) w.drew)
    (h : ∀ vs : Nat → Value, wpE P l.toArray S D K C (fun vs a' => ∀ d w', (∀ k, k < n → d k = true) → C d w' → (∀ k, k < n → D k vs w') → wpList P l.toArray Q (l.drop n) a' w') 0 vs (l.take n) a) : (Code.region id l.toArray true).wp P Q a w := by
  refine region_coreE (Γ := {vs : Nat → Value // ∀ j, S j (vs j)}) (C := fun γ L w' => C (fun j => L.getD j false) w' ∧ Closed l.toArray L ∧ ∀ k, k < n → L.getD k false = true → D k γ.1 w') n hm ht hB ⟨v0, h0⟩
    ⟨by rw [show (fun j => (Array.replicate l.length false).getD j false) = fun _ => false from funext fun j => getD_replicate_false _ j]; exact hC, (fun j o _ hl => by rw [getD_replicate_false] at hl; cases hl), fun k _ hk => by rw [getD_replicate_false] at hk; cases hk⟩ (fun γ => γ.1) ?_ ?_
  · intro i o hi γ L w' hsz hr ⟨hC', hcl, hDs⟩
    have hin : i < n := by
      have := (List.getElem?_eq_some_iff.1 hi).1
      rw [List.length_take] at this; omega
    have hun := getD_both (mem_ready.1 hr).1
    have hlt : i < L.size := by
      obtain ⟨o', ho', _⟩ := (mem_ready.1 hr).2
      have := (Array.getElem?_eq_some_iff.1 ho').1
      simp at this; omega
    have hup : (fun j => (L.setIfInBounds i true).getD j false) = upB (fun j => L.getD j false) i := funext fun j => by
      unfold upB
      by_cases e : j = i
      · subst e; rw [if_pos rfl]; simp [hlt]
      · rw [if_neg e, getD_set_ne false (Ne.symm e)]
    have hcl2 := closed_set hcl hr
    have key := (wpE_at γ.2 (l.take n) 0 a (h γ.1)).2 i o hi
    simp only [Nat.zero_add] at key
    have hwait : ∀ j, Region.waitsFor .any l.toArray i j = true → D j γ.1 w' := fun j hj => by
      have h1 := waits_ready hr hj
      have hji : j < i := by
        obtain ⟨o2, ho2, e2, he2, hb2, hon⟩ := Region.waitsFor_spec hj
        have := tidy_edge ht ho2 e2 he2 hb2
        omega
      exact hDs j (by omega) h1
    have step : ∀ (v : Value) (w2 : World), C (upB (fun j => L.getD j false) i) w2 → (w2 = w' ∨ K i γ.1 w' w2) → D i (updV γ.1 i v) w2 →
        C (fun j => (L.setIfInBounds i true).getD j false) w2 ∧ Closed l.toArray (L.setIfInBounds i true) ∧ ∀ k, k < n → (L.setIfInBounds i true).getD k false = true → D k (updV γ.1 i v) w2 := fun v w2 hc hb hd => by
      refine ⟨by rw [hup]; exact hc, hcl2, fun k hk hL' => ?_⟩
      by_cases e : k = i
      · subst e; exact hd
      · rw [getD_set_ne false (Ne.symm e)] at hL'
        have hw : Region.waitsFor .any l.toArray k i = false := by
          cases hx : Region.waitsFor .any l.toArray k i with
          | false => rfl
          | true =>
            have := waits_closed hcl hL' hx
            rw [hun] at this
            cases this
        refine hL k i _ v _ e hw ?_
        rcases hb with rfl | hb
        · exact hDs k hk hL'
        · exact hD i k _ _ _ hin e hw (hDs k hk hL') hb
    have upd : ∀ v, S i v → ∀ j, S j (updV γ.1 i v j) := fun v hv j => by
      by_cases e : j = i
      · subst e; rw [updV_self]; exact hv
      · rw [updV_ne _ _ e]; exact γ.2 j
    have keep : ∀ v j, L.getD j false = true → γ.1 j = updV γ.1 i v j := fun v j hj => by
      have : j ≠ i := fun e => by subst e; rw [hun] at hj; cases hj
      rw [updV_ne _ _ this]
    rcases key with ⟨k1, k2⟩ | ⟨k1, k2, k3, k4⟩
    · refine .inl ⟨k1, givesE_mono (k2 _ w' hun hC' hwait) fun v w2 ⟨h1, h2, h3, h4⟩ => ⟨⟨updV γ.1 i v, upd v h1⟩, keep v, updV_self _ _ _, step v w2 h2 (.inr h3) h4⟩⟩
    · exact .inr ⟨k1, ⟨updV γ.1 i undef, upd undef k2⟩, keep undef, updV_self _ _ _, step undef w' (k3 _ _ hC') (.inl rfl) (k4 w')⟩
  · intro γ L w' hall ⟨hC', _, hDs⟩
    have key := (wpE_at γ.2 (l.take n) 0 a (h γ.1)).1
    have ez : (fun i => γ.1 (0 + i)) = γ.1 := funext fun i => by rw [Nat.zero_add]
    rw [ez] at key
    exact key _ w' hall hC' fun k hk => hDs k hk (hall k hk)
end
end Go.Proofs.YtklmjdhhnnanoaaGreatDoor
set_option maxRecDepth 100000
namespace Go.Proofs.YtklmjdhhnnanoaaGreatDoor
open Go.ChangeShapes Go.WideShapes Go.ChangeAt Go.RowKit
attribute [local go_sem] Gives GivesE
theorem gE_ldA {a : Act} {w : World} {dst : Option Tmp} {ty : TypeId} {pos : String} {after : Array Edge} {x : Operand} {g o n : Nat} {f : Nat → Nat} {T : TypeId} {gd : Option (Nat × Bool)} {R : Value → World → Prop} (hT : ArT T n) (hx : a.eval x = .pointer (some ⟨g, o, none⟩)) (hb : w.rangeAt g o (ar n f).toList) (hR : R (.agg (ar n f)) w) : GivesE Tryz.prog ⟨dst, .load T x, ty, pos, after, gd⟩ a w R := by
  unfold GivesE
  simp only [execOp, hx, Sem.run_bind, run_ldm hT hb, Result.andThen_ok, Sem.run_pure]
  exact hR
section
variable {a : Act} {w : World} {dst : Option Tmp} {ty r : TypeId} {pos : String} {after : Array Edge} {x y : Operand} {f g : Nat → Nat} {gd : Option (Nat × Bool)} {R : Value → World → Prop} {T : TypeId} {n : Nat}
theorem exec_eqU (hT : Tryz.prog.underlying T = some (.array n 5)) (hg : Tryz.prog.eqGuardType Tryz.prog.depth T = false) (hx : a.eval x = .agg (ar n f)) (hy : a.eval y = .agg (ar n g)) : (execOp a.eval ⟨dst, .binOp .eql T x y r, ty, pos, after, gd⟩).run Tryz.prog w = .ok (.value (.bool (eqA n f g))) w := by
  have h1 : (eqGuard .eql T x y (.agg (ar n f)) (.agg (ar n g))).run Tryz.prog w = .ok () w := by
    simp [eqGuard, hg, go_sem]
  simp only [execOp, hx, hy, Sem.run_bind, h1, run_eql_ar hT, Result.andThen_ok, Sem.run_pure]
end
section
variable {ops : Array Oper} {a : Act} {rest : List Oper} {dst : Option Tmp} {ty r : TypeId} {pos : String} {after : Array Edge} {x y : Operand} {f g : Nat → Nat} {gd : Option (Nat × Bool)} {C : World → Prop} {Qk : Act → Prop} {T : TypeId} {n : Nat}
theorem keqU (b : Bool) (hT : Tryz.prog.underlying T = some (.array n 5)) (hg : Tryz.prog.eqGuardType Tryz.prog.depth T = false) (hwt : Region.wanted ⟨dst, .binOp .eql T x y r, ty, pos, after, gd⟩ (yielded ops a.tmps) = true) (hx : a.eval x = .agg (ar n f)) (hy : a.eval y = .agg (ar n g)) (hb : eqA n f g = b)
    (h : wpK Tryz.prog ops C Qk rest (a.put dst (.bool b))) : wpK Tryz.prog ops C Qk (⟨dst, .binOp .eql T x y r, ty, pos, after, gd⟩ :: rest) a :=
  wpK_val hwt (fun w hw => gives_value (w' := w) (by rw [exec_eqU hT hg hx hy, hb]) hw) h
end
namespace DvP
end DvP
end Go.Proofs.YtklmjdhhnnanoaaGreatDoor
set_option maxRecDepth 100000
namespace Go.Proofs.YtklmjdhhnnanoaaGreatDoor
open Go.ChangeShapes Go.WideShapes Go.ChangeAt Go.RowKit
attribute [local go_sem] GivesE
structure Sp where
  S : Value → Prop
  D : Value → World → Prop
  v0 : Value
structure Sp.ok (c : Sp) : Prop where
  some : c.S c.v0
  keep : ∀ v w1 w2, c.D v w1 → Below w1.heap.size w1 w2 → c.D v w2
def lkSp : List (Nat × Sp) → Nat → Option Sp
  | [], _ => none
  | (p, c) :: r, j => if j = p then some c else lkSp r j
def yS (fx : List (Option Value)) (sp : List (Nat × Sp)) (j : Nat) (v : Value) : Prop := match lkSp sp j with
  | some c => c.S v
  | none => match fx[j]? with
    | some (some u) => v = u
    | _ => True
def yV (fx : List (Option Value)) (sp : List (Nat × Sp)) (j : Nat) : Value := match lkSp sp j with
  | some c => c.v0
  | none => match fx[j]? with
    | some (some u) => u
    | _ => undef
theorem lk_mem : ∀ {sp : List (Nat × Sp)} {j : Nat} {c : Sp}, lkSp sp j = some c → ∃ p, (p, c) ∈ sp
  | [], _, _, h => by cases h
  | (p, d) :: r, j, c, h => by
    unfold lkSp at h
    split at h
    · cases h; exact ⟨p, List.mem_cons_self⟩
    · obtain ⟨q, hq⟩ := lk_mem h
      exact ⟨q, List.mem_cons_of_mem _ hq⟩
theorem yS_ok (fx : List (Option Value)) {sp : List (Nat × Sp)} (h : ∀ x ∈ sp, x.2.ok) (j : Nat) : yS fx sp j (yV fx sp j) := by
  unfold yS yV
  split
  · rename_i c hc
    obtain ⟨p, hp⟩ := lk_mem hc
    exact (h _ hp).some
  · split
    · rfl
    · trivial
def yD (sp : List (Nat × Sp)) (j : Nat) (vs : Nat → Value) (w : World) : Prop := match lkSp sp j with
  | some c => c.D (vs j) w
  | none => True
end Go.Proofs.YtklmjdhhnnanoaaGreatDoor
set_option maxRecDepth 100000
namespace Go.Proofs.YtklmjdhhnnanoaaGreatDoor
open Go.ChangeShapes Go.WideShapes Go.ChangeAt Go.RowKit
section
variable {α : Type} {k : Nat} {en : α → List Value} {E L : TypeId}
theorem run_lit1 (hE : EltX E k en) (hu : Tryz.prog.underlying L = some (.slice E)) (x : α) {v : Value} (hv : v.cells.toList = en x) (hk : k ≤ 1000) (w : World) :
    (Instr.buildSlice L 1 #[(0, v)]).run Tryz.prog w = .ok (.slice (some ⟨w.heap.size, 0, none⟩) 1 1) (w.alloc (.cells (en x).toArray E)) := by
  obtain ⟨ie, z, hi, hz, h1, h2, h3⟩ := hE.info
  refine run_buildSlice w L E 1 _ _ ie z hu hi hz (by rw [h1]; omega) (by rw [h1]; have := hE.pos; omega) ?_
  have hcs : v.cells.size = k := by rw [← Array.length_toList, hv, hE.len]
  have := fill_consec (place := fun i => some (i * ie.size, ie.size)) [v] [(0, k)] [] (((Array.range (1 * ie.size)).map (z.cells[· % z.cells.size]!)).toList) 0 ⟨rfl, trivial⟩ (by simp [hcs]) (by simp [h1]) (fun j hj => by
    have : j = 0 := by simp at hj; exact hj
    subst this
    simp [h1])
  simp only [List.nil_append, List.map_cons, List.map_nil, List.sum_cons, List.sum_nil, Nat.add_zero, List.flatMap_cons, List.flatMap_nil, List.append_nil, hv] at this
  rw [List.drop_eq_nil_of_le (by simp [h1]), List.append_nil, Array.toArray_toList] at this
  exact this
theorem sli_lit1 {S : Nat → Prop} (hE : EltX E k en) (x : α) (w : World) (hS : S w.heap.size) : Sli k en S (w.alloc (.cells (en x).toArray E)) (some ⟨w.heap.size, 0, none⟩) [x] 1 1 where
  len := rfl
  cap := Nat.le_refl _
  max := by unfold maxLen; omega
  none e := by cases e
  lst _ := ⟨w.heap.size, 0, rfl, hS, by simp, fun i y hi j u hj => by
    have hb : Blk (w.alloc (.cells (en x).toArray E)) w.heap.size E (en x).toArray := Blk.new _ _ _
    cases i with
    | zero =>
      simp only [List.getElem?_cons_zero, Option.some.injEq] at hi
      subst hi
      rw [Nat.zero_add, Nat.zero_mul, Nat.zero_add, hb.cell]
      simpa using hj
    | succ i => simp at hi⟩
variable {ops : Array Oper} {Q : Exit → Act → World → Prop} {a : Act} {w : World} {rest : List Oper} {dst : Option Tmp} {ty : TypeId} {pos : String} {after : Array Edge} {o : Operand} {x : α} {v : Value}
theorem wlit1 (hE : EltX E k en) (hu : Tryz.prog.underlying L = some (.slice E)) (hk : k ≤ 1000) (ho : a.eval o = v) (hv : v.cells.toList = en x)
    (h : wpList Tryz.prog ops Q rest (a.put dst (.slice (some ⟨w.heap.size, 0, none⟩) 1 1)) (w.alloc (.cells (en x).toArray E))) :
    wpList Tryz.prog ops Q (⟨dst, .buildSlice L 1 #[(0, o)], ty, pos, after, none⟩ :: rest) a w := by
  have hm : (#[(0, o)] : Array (Nat × Operand)).map (fun (i, x) => (i, a.eval x)) = #[(0, v)] := by
    simp only [List.map_toArray, List.map_cons, List.map_nil, ho]
  refine wpList_plain rfl fun K hK => ?_
  unfold Oper.wp execOp
  simp only [Sem.run_bind, hm, run_lit1 hE hu x hv hk w, Result.andThen_ok, Sem.run_pure]
  exact hK _ _ h
theorem gE_lit1 {gd : Option (Nat × Bool)} {R : Value → World → Prop} (hE : EltX E k en) (hu : Tryz.prog.underlying L = some (.slice E)) (hk : k ≤ 1000) (ho : a.eval o = v) (hv : v.cells.toList = en x)
    (h : R (.slice (some ⟨w.heap.size, 0, none⟩) 1 1) (w.alloc (.cells (en x).toArray E))) : GivesE Tryz.prog ⟨dst, .buildSlice L 1 #[(0, o)], ty, pos, after, gd⟩ a w R := by
  have hm : (#[(0, o)] : Array (Nat × Operand)).map (fun (i, x) => (i, a.eval x)) = #[(0, v)] := by
    simp only [List.map_toArray, List.map_cons, List.map_nil, ho]
  unfold GivesE execOp
  simp only [Sem.run_bind, hm, run_lit1 hE hu x hv hk w, Result.andThen_ok, Sem.run_pure]
  exact h
def spX (k : Nat) (en : α → List Value) (S : Nat → Prop) (l : List α) : Sp := ⟨fun v => ∃ (A : Option Addr) (c : Nat), v = .slice A l.length c, fun v w => ∃ (A : Option Addr) (c : Nat), v = .slice A l.length c ∧ Sli k en S w A l l.length c, .slice none l.length 0⟩
end
end Go.Proofs.YtklmjdhhnnanoaaGreatDoor
set_option maxRecDepth 100000
namespace Go.Proofs.YtklmjdhhnnanoaaGreatDoor
open Go.ChangeShapes Go.WideShapes Go.ChangeAt Go.RowKit
section
variable {α : Type} {k : Nat} {en : α → List Value} {E L ty : TypeId} {S T : Nat → Prop} {w : World} {A B : Option Addr} {l m : List α}
theorem flat_read (hE : EltX E k en) {n c : Nat} {ad : Addr} (h : Sli k en S w (some ad) l n c) : ∀ j u, (l.flatMap en)[j]? = some u → w.cell? (ad.add j) = some u := fun j u hj => by
  have hjl := (List.getElem?_eq_some_iff.1 hj).1
  rw [flat_len hE.len] at hjl
  have hq : j / k < l.length := Nat.div_lt_of_lt_mul (by rw [Nat.mul_comm]; exact hjl)
  have h4 := flat_at hE.len l (j / k) (j % k) l[j / k] (List.getElem?_eq_getElem hq) (Nat.mod_lt _ hE.pos)
  rw [show j / k * k + j % k = j by rw [Nat.mul_comm]; exact Nat.div_add_mod j k, hj] at h4
  obtain ⟨b, o, e, _, _, hr⟩ := h.lst (Nat.lt_of_le_of_lt (Nat.zero_le _) hq)
  obtain rfl : ad = ⟨b, o, none⟩ := Option.some.inj e
  have h5 := hr (j / k) l[j / k] (List.getElem?_eq_getElem hq) (j % k) u h4.symm
  rw [Addr.add_mid]
  rwa [show o + j / k * k + j % k = o + j by have := Nat.div_add_mod j k; rw [Nat.mul_comm] at this; omega] at h5
variable {a : Act} {dst : Option Tmp} {pos : String} {after : Array Edge} {gd : Option (Nat × Bool)} {R : Value → World → Prop} {o1 o2 : Operand}
end
end Go.Proofs.YtklmjdhhnnanoaaGreatDoor
set_option maxRecDepth 100000
namespace Go.Proofs.YtklmjdhhnnanoaaGreatDoor
open Go.RowKit
section
variable {P : Program} {ops : Array Oper}
def wpC (P : Program) (ops : Array Oper) (S : Nat → Value → Prop) (C : (Nat → Bool) → (Nat → Value) → World → Prop) (Q : (Nat → Value) → Act → Prop) : Nat → (Nat → Value) → List Oper → Act → Prop
  | _, vs, [], a => Q vs a
  | k, vs, o :: rest, a => ((Region.wanted o (yielded ops a.tmps) = true ∧ ∀ d w, d k = false → (∀ j, Region.waitsFor .any ops j k = true → d j = false) → (∀ j, Region.waitsFor .any ops k j = true → d j = true) → C d vs w →
      GivesE P o a w fun v w' => S k v ∧ C (upB d k) (updV vs k v) w') ∨
      (Region.wanted o (yielded ops a.tmps) = false ∧ S k undef ∧ (∀ d w, C d vs w → C (upB d k) (updV vs k undef) w))) ∧ (S k (vs k) → wpC P ops S C Q (k + 1) vs rest (a.put o.dst (vs k)))
theorem wpC_at {S : Nat → Value → Prop} {C : (Nat → Bool) → (Nat → Value) → World → Prop} {Qk : (Nat → Value) → Act → Prop} {vs : Nat → Value} (hS : ∀ j, S j (vs j)) : ∀ (l : List Oper) (k : Nat) (a : Act), wpC P ops S C Qk k vs l a →
    Qk vs (lexF l (fun i => vs (k + i)) l.length a) ∧ ∀ i o, l[i]? = some o →
      ((Region.wanted o (yielded ops (lexF l (fun i => vs (k + i)) i a).tmps) = true ∧ ∀ d w, d (k + i) = false → (∀ j, Region.waitsFor .any ops j (k + i) = true → d j = false) → (∀ j, Region.waitsFor .any ops (k + i) j = true → d j = true) → C d vs w →
        GivesE P o (lexF l (fun i => vs (k + i)) i a) w fun v w' => S (k + i) v ∧ C (upB d (k + i)) (updV vs (k + i) v) w') ∨
      (Region.wanted o (yielded ops (lexF l (fun i => vs (k + i)) i a).tmps) = false ∧ S (k + i) undef ∧ (∀ d w, C d vs w → C (upB d (k + i)) (updV vs (k + i) undef) w)))
  | [], k, a, h => ⟨h, fun i o hi => by simp at hi⟩
  | o :: l, k, a, h => by
    obtain ⟨h1, h2⟩ := h
    obtain ⟨hq, hs⟩ := wpC_at hS l (k + 1) _ (h2 (hS k))
    have e : (fun i => vs (k + 1 + i)) = fun i => vs (k + (i + 1)) := funext fun i => by rw [show k + 1 + i = k + (i + 1) by omega]
    rw [e] at hq hs
    refine ⟨?_, fun i o' hi => ?_⟩
    · rw [List.length_cons, lexF_cons]; exact hq
    · cases i with
      | zero =>
        simp only [List.getElem?_cons_zero, Option.some.injEq] at hi
        subst hi
        exact h1
      | succ i =>
        rw [lexF_cons, show k + (i + 1) = k + 1 + i by omega]
        exact hs i o' (by simpa using hi)
theorem wp_region_c {id : Nat} {Q : Exit → Act → World → Prop} {C : (Nat → Bool) → (Nat → Value) → World → Prop} {S : Nat → Value → Prop} {a : Act} {w : World} {l : List Oper} (n : Nat)
    (hm : P.follows .mixedOrders = true) (ht : tidy l.toArray = true) (hB : tailB l.toArray n = true)
    (v0 : Nat → Value) (h0 : ∀ j, S j (v0 j)) (hC : C (fun _ => false) v0 w.drew)
    (h : ∀ vs : Nat → Value, wpC P l.toArray S C (fun vs a' => ∀ d w', (∀ k, k < n → d k = true) → C d vs w' → wpList P l.toArray Q (l.drop n) a' w') 0 vs (l.take n) a) : (Code.region id l.toArray true).wp P Q a w := by
  refine region_coreE (Γ := {vs : Nat → Value // ∀ j, S j (vs j)}) (C := fun γ L w' => C (fun j => L.getD j false) γ.1 w' ∧ Closed l.toArray L) n hm ht hB ⟨v0, h0⟩
    ⟨by rw [show (fun j => (Array.replicate l.length false).getD j false) = fun _ => false from funext fun j => getD_replicate_false _ j]; exact hC, (fun j o _ hl => by rw [getD_replicate_false] at hl; cases hl)⟩ (fun γ => γ.1) ?_ ?_
  · intro i o hi γ L w' hsz hr ⟨hC', hcl⟩
    have hun := getD_both (mem_ready.1 hr).1
    have hlt : i < L.size := by
      obtain ⟨o', ho', _⟩ := (mem_ready.1 hr).2
      have := (Array.getElem?_eq_some_iff.1 ho').1
      simp at this; omega
    have hup : (fun j => (L.setIfInBounds i true).getD j false) = upB (fun j => L.getD j false) i := funext fun j => by
      unfold upB
      by_cases e : j = i
      · subst e; rw [if_pos rfl]; simp [hlt]
      · rw [if_neg e, getD_set_ne false (Ne.symm e)]
    have hcl2 := closed_set hcl hr
    have key := (wpC_at γ.2 (l.take n) 0 a (h γ.1)).2 i o hi
    simp only [Nat.zero_add] at key
    have hwait : ∀ j, Region.waitsFor .any l.toArray i j = true → L.getD j false = true := fun j hj => waits_ready hr hj
    have hnext : ∀ j, Region.waitsFor .any l.toArray j i = true → L.getD j false = false := fun j hj => by
      cases hx : L.getD j false with
      | false => rfl
      | true =>
        have := waits_closed hcl hx hj
        rw [hun] at this
        cases this
    have upd : ∀ v, S i v → ∀ j, S j (updV γ.1 i v j) := fun v hv j => by
      by_cases e : j = i
      · subst e; rw [updV_self]; exact hv
      · rw [updV_ne _ _ e]; exact γ.2 j
    have keep : ∀ v j, L.getD j false = true → γ.1 j = updV γ.1 i v j := fun v j hj => by
      have : j ≠ i := fun e => by subst e; rw [hun] at hj; cases hj
      rw [updV_ne _ _ this]
    rcases key with ⟨k1, k2⟩ | ⟨k1, k2, k3⟩
    · refine .inl ⟨k1, givesE_mono (k2 _ w' hun hnext hwait hC') fun v w2 ⟨h1, h2⟩ => ⟨⟨updV γ.1 i v, upd v h1⟩, keep v, updV_self _ _ _, ?_, hcl2⟩⟩
      rw [hup]; exact h2
    · refine .inr ⟨k1, ⟨updV γ.1 i undef, upd undef k2⟩, keep undef, updV_self _ _ _, ?_, hcl2⟩
      rw [hup]; exact k3 _ _ hC'
  · intro γ L w' hall ⟨hC', _⟩
    have key := (wpC_at γ.2 (l.take n) 0 a (h γ.1)).1
    have ez : (fun i => γ.1 (0 + i)) = γ.1 := funext fun i => by rw [Nat.zero_add]
    rw [ez] at key
    exact key _ w' hall hC'
end
open Go.ChangeShapes Go.WideShapes Go.ChangeAt
def kSl (m : Nat) : Sp := ⟨fun v => ∃ (A : Option Addr) (c : Nat), v = .slice A m c, fun _ _ => True, .slice none m 0⟩
theorem kSl_ok (m : Nat) : (kSl m).ok := ⟨⟨none, 0, rfl⟩, fun _ _ _ _ _ => trivial⟩
def kMp : Sp := ⟨fun v => ∃ r : Nat, v = .map (some r), fun _ _ => True, .map (some 0)⟩
theorem kMp_ok : kMp.ok := ⟨⟨0, rfl⟩, fun _ _ _ _ _ => trivial⟩
section
variable {α : Type} {k : Nat} {en : α → List Value} {E L : TypeId} {S : Nat → Prop} {w : World} {a : Act} {dst : Option Tmp} {ty : TypeId} {pos : String} {after : Array Edge} {gd : Option (Nat × Bool)} {R : Value → World → Prop} {o1 o2 : Operand} {v : Value} {l m : List α} {A : Option Addr} {n cap B : Nat}
theorem run_appX_where (hE : EltX E k en) (hu : Tryz.prog.underlying L = some (.slice E)) (hown : OwnX E k en w B v l) (hm : Sli k en S w A m n cap) (hsz : l.length + n ≤ 1000000) (hk : k ≤ 1000) {v' : Value} {w' : World}
    (hr : (Builtin.append_ #[L, L] ty #[v, .slice A n cap]).run Tryz.prog w = .ok v' w') : v'.ownBlock = v.ownBlock ∨ v'.ownBlock = some w.heap.size := by
  obtain ⟨i, z, hi, hz, h1, h2, h3⟩ := hE.info
  cases A with
  | none =>
    obtain ⟨rfl, rfl⟩ := hm.none rfl
    rw [run_append_owned_none (P := Tryz.prog) w B L ty E i k hu hi v l.length _ hown] at hr
    cases hr
    exact .inl rfl
  | some ad =>
    have hbytes : (l.length + n) * i.bytes ≤ 140737488355328 := Nat.le_trans (Nat.mul_le_mul hsz (Nat.le_trans h2 (show 16 * k + 16 ≤ 16016 by omega))) (by omega)
    have hl1 : (m.flatMap en).length = n * i.size := by rw [flat_len hE.len, hm.len, h1]
    have hne := flat_read hE hm
    have hone : ∀ u ∈ m.flatMap en, u.oneCell' = true := fun u hu => by obtain ⟨x, _, hx⟩ := List.mem_flatMap.1 hu; exact hE.one x u hx
    rcases hown.2 with ⟨rfl, h0⟩ | ⟨g, c, cur, rfl, hB, hg, hnc, hcm, hcs, ht⟩
    · by_cases hn0 : n = 0
      · subst hn0
        have hn : m = [] := List.eq_nil_of_length_eq_zero hm.len
        subst hn
        left
        have hrun : (Builtin.append_ #[L, L] ty #[.slice none 0 0, .slice (some ad) 0 cap]).run Tryz.prog w = .ok (.slice none 0 0) w := by
          simp [Builtin.append_, run_underlying hu, sizeOf, typeInfo, hi, Builtin.lenOf, Builtin.firstCells, loadCells, loadCellsFrom]
        rw [hrun] at hr
        cases hr
        rfl
      · right
        rw [h0, Nat.zero_add] at hbytes
        have hrun := run_append_nil (P := Tryz.prog) w L ty E i z hu hi hz ad n cap _ hl1 hne (by omega) (by omega) (by omega)
        rw [hrun] at hr
        cases hr
        rfl
    · by_cases hroom : l.length + n ≤ c
      · left
        have hrun := run_append_room (P := Tryz.prog) w L ty E i hu hi g l.length c cur hg ad n cap _ hl1 hne hone hroom (by
          rw [h1, flat_len hE.len, hm.len, hcs, ← Nat.add_mul]; exact Nat.mul_le_mul_right k hroom)
        rw [hrun] at hr
        cases hr
        rfl
      · right
        have hown' : w.ownsRow B E i.size (.slice (some ⟨g, 0, none⟩) l.length c) l.length (l.flatMap en) := by rw [h1]; exact hown
        have holds : ∀ j u, (l.flatMap en)[j]? = some u → w.cell? ((⟨g, 0, none⟩ : Addr).add j) = some u := hown'.cells (g := g) rfl
        have hrun := run_append_grow (P := Tryz.prog) w L ty E i z hu hi hz ⟨g, 0, none⟩ l.length c (l.flatMap en) (by rw [flat_len hE.len, h1]) holds ad n cap _ hl1 hne (by omega) (by omega) (growslice_fits (by omega) hbytes)
        rw [hrun] at hr
        cases hr
        rfl
theorem gE_appW (hE : EltX E k en) (hu : Tryz.prog.underlying L = some (.slice E)) (hx : a.eval o1 = v) (hy : a.eval o2 = .slice A n cap) (hown : OwnX E k en w B v l) (hm : Sli k en S w A m n cap) (hsz : l.length + n ≤ 1000000) (hk : k ≤ 1000) (hB : B ≤ w.heap.size)
    (hR : ∀ v' w', OwnX E k en w' B v' (l ++ m) → w.grownBy w' v.ownBlock → (v'.ownBlock = v.ownBlock ∨ v'.ownBlock = some w.heap.size) → R v' w') :
    GivesE Tryz.prog ⟨dst, .call { callee := .builtin .append, args := #[o1, o2], argTypes := #[L, L] }, ty, pos, after, gd⟩ a w R := by
  obtain ⟨v', w', hr, h1, h2⟩ := run_appX (ty := ty) hE hu hown hm hsz hk hB
  have h3 := run_appX_where hE hu hown hm hsz hk hr
  unfold GivesE execOp
  simp only [resolve, invoke, builtin, Sem.run_bind, Sem.run_pure, Result.andThen_ok, List.map_toArray, List.map_cons, List.map_nil, hx, hy, hr]
  exact hR v' w' h1 h2 h3
end
structure ApC {α : Type} (E : TypeId) (k : Nat) (en : α → List Value) (w0 : World) (vl : Value) (l : List α) (x : α) (d8 d9 : Bool) (v8 v9 : Value) (w' : World) : Prop where
  t : Turn (fun b => vl.ownBlock = some b) w0 w'
  b : d9 = false → Below w0.heap.size w0 w'
  lit : d8 = true → d9 = false → ∃ A c, v8 = .slice A 1 c ∧ Sli k en (fun b => w0.heap.size ≤ b) w' A [x] 1 c
  own : d9 = true → OwnX E k en w' 0 v9 (l ++ [x]) ∧ ∀ b, v9.ownBlock = some b → vl.ownBlock = some b ∨ w0.heap.size ≤ b
end Go.Proofs.YtklmjdhhnnanoaaGreatDoor
set_option maxRecDepth 100000
namespace Go.Proofs.YtklmjdhhnnanoaaGreatDoor
open Go.RowKit
section
variable {P : Program} {ops : Array Oper}
theorem wp_region_new1 {id : Nat} {Q : Exit → Act → World → Prop} {C : World → Prop} {a : Act} {w : World} {l : List Oper} (n : Nat) (T : TypeId) (z : Array Value) (d1 : Tmp) {t1 : TypeId} {p1 : String} {e1 : Array Edge}
    (hl1 : l[n]? = some ⟨some d1, .alloc T, t1, p1, e1, none⟩)
    (hm : P.follows .mixedOrders = true) (ht : tidy l.toArray = true) (hB : tailB l.toArray (n + 1) = true)
    (ha : ∀ w, (Instr.alloc T true (.tuple #[])).run P w = .ok (.pointer (some ⟨w.heap.size, 0, none⟩)) (w.alloc (.cells z T)))
    (hC : C w.drew) (hCa : ∀ w, C w → C (w.alloc (.cells z T))) (hCs : ∀ w', C w' → w.heap.size ≤ w'.heap.size)
    (h : wpB P l.toArray C (fun a' => ∀ b1 w', C w' → Blk w' b1 T z → w.heap.size ≤ b1 →
      wpList P l.toArray Q (l.drop (n + 1)) (a'.put (some d1) (ptr b1)) w') (l.take n) a) : (Code.region id l.toArray true).wp P Q a w := by
  obtain ⟨vals, hq, hs⟩ := wpB_vals _ _ h
  have hln : n < l.length := (List.getElem?_eq_some_iff.1 hl1).1
  have hlen : (l.take n).length = n := by rw [List.length_take]; omega
  let V : Nat → Nat → Value := fun γ i => if i = n then ptr γ else vals i
  have hV : ∀ γ i, i < n → V γ i = vals i := fun γ i hi => by show (if _ then _ else _) = _; rw [if_neg (by omega)]
  have hfr : ∀ γ i, i ≤ n → lexF (l.take (n + 1)) (V γ) i a = lexF (l.take n) vals i a := fun γ i hi => lexF_congr fun j hj =>
    ⟨by rw [List.getElem?_take_of_lt (by omega), List.getElem?_take_of_lt (by omega)], hV γ j (by omega)⟩
  refine region_core (Γ := Nat) (C := fun γ L w' => C w' ∧ (L.getD n false = true → Blk w' γ T z ∧ w.heap.size ≤ γ)) (n + 1) hm ht hB 0
    ⟨hC, (fun h => by rw [getD_replicate_false] at h; cases h)⟩ V ?_ ?_
  · intro i o hi γ L w' hsz hr ⟨hC', g1⟩
    have hilt : i < n + 1 := by
      have := (List.getElem?_eq_some_iff.1 hi).1
      rw [List.length_take] at this; omega
    rw [List.getElem?_take_of_lt hilt] at hi
    have hun := getD_both (mem_ready.1 hr).1
    rcases Nat.lt_or_ge i n with hin | hin
    · have hset : ∀ k, k ≠ i → (L.setIfInBounds i true).getD k false = L.getD k false := fun k hk => getD_set_ne false (Ne.symm hk)
      refine ⟨γ, fun _ _ => rfl, ?_⟩
      rw [hfr γ i (by omega), hV γ i hin]
      simp only [hset n (by omega)]
      rcases hs i o (by rw [List.getElem?_take_of_lt hin]; exact hi) with ⟨h1, h2⟩ | ⟨h1, h2⟩
      · exact .inl ⟨h1, gives_mono (h2 w' hC') fun w'' ⟨h3, h4⟩ => ⟨h3, fun e => ⟨(g1 e).1.below h4 (g1 e).1.lt, (g1 e).2⟩⟩⟩
      · exact .inr ⟨h1, h2, hC', g1⟩
    · obtain rfl : i = n := by omega
      obtain rfl : _ = o := Option.some.inj (hl1.symm.trans hi)
      have hw : ∀ b : Act, (execOp b.eval ⟨some d1, .alloc T, t1, p1, e1, none⟩).run P w' = .ok (.value (.pointer (some ⟨w'.heap.size, 0, none⟩))) (w'.alloc (.cells z T)) := fun b => by
        simp only [execOp, Sem.run_bind, ha w', Result.andThen_ok, Sem.run_pure]
      refine ⟨w'.heap.size, fun j hj => ?_, .inl ⟨rfl, ?_⟩⟩
      · have hjn : j ≠ i := fun e => by subst e; rw [hun] at hj; cases hj
        simp only [V, if_neg hjn]
      · refine gives_value (w' := w'.alloc (.cells z T)) ?_ ?_
        · rw [hw]
          simp only [V, if_pos]; rfl
        · exact ⟨hCa _ hC', fun _ => ⟨Blk.new _ _ _, hCs _ hC'⟩⟩
  · intro γ L w' hall ⟨hC', g1⟩
    have h1 := hall n (by omega)
    have hl2' : (l.take (n + 1)).length = n + 1 := by rw [List.length_take]; omega
    rw [hl2']
    have hput : lexF (l.take (n + 1)) (V γ) (n + 1) a = (lexF (l.take n) vals n a).put (some d1) (ptr γ) := by
      rw [lexF, hfr γ n (Nat.le_refl n), List.getElem?_take_of_lt (by omega), hl1]
      simp only [V, if_pos, Option.bind_some]
    rw [hput]
    rw [hlen] at hq
    exact hq γ w' hC' (g1 h1).1 (g1 h1).2
end
end Go.Proofs.YtklmjdhhnnanoaaGreatDoor
set_option maxRecDepth 100000
namespace Go.Proofs.YtklmjdhhnnanoaaGreatDoor
open Go.ChangeShapes Go.WideShapes Go.ChangeAt Go.RowKit
section
variable {ops : Array Oper} {a : Act} {rest : List Oper} {dst : Option Tmp} {ty : TypeId} {pos : String} {after : Array Edge} {x : Operand} {g o n : Nat} {f : Nat → Nat} {T : TypeId} {C : World → Prop} {Qk : Act → Prop} {gd : Option (Nat × Bool)}
theorem bldA (hT : ArT T n) (hwt : Region.wanted ⟨dst, .load T x, ty, pos, after, gd⟩ (yielded ops a.tmps) = true) (hx : a.eval x = .pointer (some ⟨g, o, none⟩)) (hb : ∀ w, C w → w.rangeAt g o (ar n f).toList) (h : wpB Tryz.prog ops C Qk rest (a.put dst (.agg (ar n f)))) :
    wpB Tryz.prog ops C Qk (⟨dst, .load T x, ty, pos, after, gd⟩ :: rest) a :=
  wpB_val hwt (fun w hw => gives_value (w' := w) (by simp only [execOp, hx, Sem.run_bind, run_ldm hT (hb w hw), Result.andThen_ok, Sem.run_pure]) ⟨hw, Below.refl _ _⟩) h
end
end Go.Proofs.YtklmjdhhnnanoaaGreatDoor
set_option maxRecDepth 100000
namespace Go.Proofs.YtklmjdhhnnanoaaGreatDoor
open Go.ChangeShapes Go.WideShapes Go.ChangeAt Go.RowKit
attribute [local go_sem] Gives
structure RowT (T : TypeId) (n : Nat) : Prop where
  size : (Tryz.prog.info? T).map (·.size) = some n
  desc : ∃ d, Tryz.prog.underlying T = some d ∧ d.isRow = true
section
variable {ops : Array Oper} {Q : Exit → Act → World → Prop} {a : Act} {w : World} {rest : List Oper} {dst : Option Tmp} {ty : TypeId} {pos : String} {after : Array Edge} {x y : Operand} {g o n : Nat} {cs : Array Value} {T : TypeId} {C : World → Prop} {Qk : Act → Prop} {gd : Option (Nat × Bool)}
theorem run_ldR (hT : RowT T cs.size) (hb : w.rangeAt g o cs.toList) : (Instr.loadAt T (.pointer (some ⟨g, o, none⟩))).run Tryz.prog w = .ok (.agg cs) w := by
  obtain ⟨d, h1, h2⟩ := hT.desc
  have := run_loadAt_mid (P := Tryz.prog) w g o T cs.toList _ hb h1 h2 (hT.size.trans (by rw [Array.length_toList]))
  rwa [Array.toArray_toList] at this
theorem Blk.whole {t : TypeId} (h : Blk w g t cs) : w.rangeAt g 0 cs.toList := fun j v hj => by
  rw [Nat.zero_add, h.cell]; rwa [Array.getElem?_toList] at hj
theorem ldR (hT : RowT T cs.size) (hx : a.eval x = .pointer (some ⟨g, o, none⟩)) (hb : w.rangeAt g o cs.toList) (h : wpList Tryz.prog ops Q rest (a.put dst (.agg cs)) w) :
    wpList Tryz.prog ops Q (⟨dst, .load T x, ty, pos, after, none⟩ :: rest) a w := by
  obtain ⟨d, h1, h2⟩ := hT.desc
  exact step_load_mid hb h1 h2 (hT.size.trans (by rw [Array.length_toList])) hx (by rw [Array.toArray_toList]; exact h)
theorem stR {t : TypeId} {old : Array Value} (hT : RowT T cs.size) (hx : a.eval x = .pointer (some ⟨g, 0, none⟩)) (hy : a.eval y = .agg cs) (hb : Blk w g t old) (hs : old.size = cs.size) (h1 : cs.all (·.oneCell') = true) (h : wpList Tryz.prog ops Q rest (a.put dst undef) (w.setRow g cs)) :
    wpList Tryz.prog ops Q (⟨dst, .store T x y, ty, pos, after, none⟩ :: rest) a w :=
  step_store_row hb hT.size hs h1 hx hy h
theorem kldR (hT : RowT T cs.size) (hwt : Region.wanted ⟨dst, .load T x, ty, pos, after, gd⟩ (yielded ops a.tmps) = true) (hx : a.eval x = .pointer (some ⟨g, o, none⟩)) (hb : ∀ w, C w → w.rangeAt g o cs.toList) (h : wpK Tryz.prog ops C Qk rest (a.put dst (.agg cs))) :
    wpK Tryz.prog ops C Qk (⟨dst, .load T x, ty, pos, after, gd⟩ :: rest) a :=
  wpK_val hwt (fun w hw => gives_value (w' := w) (by simp only [execOp, hx, Sem.run_bind, run_ldR hT (hb w hw), Result.andThen_ok, Sem.run_pure]) hw) h
theorem bldR (hT : RowT T cs.size) (hwt : Region.wanted ⟨dst, .load T x, ty, pos, after, gd⟩ (yielded ops a.tmps) = true) (hx : a.eval x = .pointer (some ⟨g, o, none⟩)) (hb : ∀ w, C w → w.rangeAt g o cs.toList) (h : wpB Tryz.prog ops C Qk rest (a.put dst (.agg cs))) :
    wpB Tryz.prog ops C Qk (⟨dst, .load T x, ty, pos, after, gd⟩ :: rest) a :=
  wpB_val hwt (fun w hw => gives_value (w' := w) (by simp only [execOp, hx, Sem.run_bind, run_ldR hT (hb w hw), Result.andThen_ok, Sem.run_pure]) ⟨hw, Below.refl _ _⟩) h
end
end Go.Proofs.YtklmjdhhnnanoaaGreatDoor
set_option maxRecDepth 100000
namespace Go.Proofs.YtklmjdhhnnanoaaGreatDoor
open Go.ChangeShapes Go.WideShapes Go.ChangeAt Go.RowKit
section
variable {ops : Array Oper} {Q : Exit → Act → World → Prop} {a : Act} {w : World} {rest : List Oper} {dst : Option Tmp} {ty : TypeId} {pos : String} {after : Array Edge} {n : Nat} {f : Nat → Nat} {T : TypeId}
theorem bldZr (hz : Tryz.prog.built T [] = some (ar n fun _ => 0)) (hk : wpList Tryz.prog ops Q rest (a.put dst (.agg (ar n fun _ => 0))) w) :
    wpList Tryz.prog ops Q (⟨dst, .build T #[], ty, pos, after, none⟩ :: rest) a w := by
  have hr : (Instr.build T #[]).run Tryz.prog w = .ok (.agg (ar n fun _ => 0)) w := run_build w _ _ _ hz
  refine wpList_plain rfl fun K hK => ?_
  unfold Oper.wp execOp
  simp [hr, Result.andThen]
  exact hK _ _ hk
theorem retA {t : TypeId} {h : Nat} {fn : Func} {R : Ending → World → Prop} {p q : Tmp} {v : Value} (hT : ArT T n) (hr : fn.results = #[.cell p T, .tmp q]) (hp : a.tmps.getD p undef = .pointer (some ⟨h, 0, none⟩)) (hq : a.tmps.getD q undef = v)
    (hdf : a.defers = []) (hb : Blk w h t (ar n f)) (hR : R (.returned (.tuple #[.agg (ar n f), v])) w) : bodyPost Tryz.prog fn R .ret a w := by
  refine bodyPost_ret ?_ hdf hR
  have hp' : a.tmps[p]?.getD undef = .pointer (some ⟨h, 0, none⟩) := by simpa using hp
  have hq' : a.tmps[q]?.getD undef = v := by simpa using hq
  simp [results, hr, hp', hq', asAddr, run_ar_var hT hb]
theorem run_st_ar {g : Nat} {t : TypeId} {f0 : Nat → Nat} (hT : ArT T n) (hb : Blk w g t (ar n f0)) (F : Nat → Nat) : (Instr.storeAt T (.pointer (some ⟨g, 0, none⟩)) (.agg (ar n F))).run Tryz.prog w = .ok () (w.setRow g (ar n F)) := by
  have h1 := run_storeVar_row (P := Tryz.prog) w g t T (ar n f0) (ar n F) hb (hT.size.trans (by rw [size_ar])) (by rw [size_ar, size_ar]) ar_one
  simp only [Instr.storeAt, Instr.sureAddr, Sem.run_bind, h1, Result.andThen_ok, Sem.run_pure]
end
end Go.Proofs.YtklmjdhhnnanoaaGreatDoor
set_option maxRecDepth 100000
namespace Go.Proofs.YtklmjdhhnnanoaaGreatDoor
open Go.ChangeShapes Go.WideShapes Go.ChangeAt Go.RowKit
section
variable {T : TypeId} {m N o : Nat} {F G : Nat → Nat}
end
end Go.Proofs.YtklmjdhhnnanoaaGreatDoor
set_option maxRecDepth 100000
namespace Go.Proofs.YtklmjdhhnnanoaaGreatDoor
open Go.ChangeShapes Go.WideShapes Go.ChangeAt Go.RowKit
attribute [local go_sem] Gives GivesE
namespace ClP
theorem tTg : ArT 81 32 := ⟨by kernel_rfl, ⟨_, Tryz.underlying81, rfl⟩, (zero_of_info (P := Tryz.prog) (t := 81) (v := .agg (ar 32 fun _ => 0)) (n := 32) (by kernel_rfl)).1⟩
theorem uTg : Tryz.prog.underlying 81 = some (.array 32 5) := Tryz.underlying81
theorem gTg : Tryz.prog.eqGuardType Tryz.prog.depth 81 = false := by kernel_rfl
abbrev Held := Nat × (Nat → Nat)
def zero : Nat → Nat := fun _ => 0
def ceL (h : Held) : List Value := .int .u64 (h.1 : Nat) :: (ar 32 h.2).toList
theorem ceL_len (h : Held) : (ceL h).length = 33 := by unfold ceL; rw [List.length_cons, Array.length_toList, size_ar]
theorem eltCe : EltX 102 33 ceL where
  pos := by omega
  len := ceL_len
  one p u hu := by
    unfold ceL at hu
    rcases List.mem_cons.1 hu with rfl | hu
    · rfl
    · have := Array.all_eq_true_iff_forall_mem.1 (row_one (n := 32) (f := fun j => Value.int .u8 (p.2 j : Nat)) fun _ _ => rfl) u (by simpa [ar] using hu)
      exact this
  info := elt_info (by kernel_rfl) (by kernel_rfl) (by kernel_rfl)
theorem undCe : Tryz.prog.underlying 154 = some (.slice 102) := Tryz.underlying154
theorem tCe (h : Held) : RowT 102 (ceL h).toArray.size := by
  rw [List.size_toArray, ceL_len]
  exact ⟨by kernel_rfl, _, Tryz.underlying102, rfl⟩
theorem ce_size (p q : Held) : (ceL p).toArray.size = (ceL q).toArray.size := by rw [List.size_toArray, List.size_toArray, ceL_len, ceL_len]
theorem ce_one (p : Held) : (ceL p).toArray.all (·.oneCell') = true := by
  rw [Array.all_eq_true_iff_forall_mem]
  intro u hu
  exact eltCe.one p u (by simpa using hu)
theorem zCe (w : World) : (zeroValue 102).run Tryz.prog w = .ok (.agg (ceL (0, zero)).toArray) w := (zero_of_info (P := Tryz.prog) (t := 102) (v := .agg (ceL (0, zero)).toArray) (n := 33) (by kernel_rfl)).1 w
theorem ce_n {w : World} {b o : Nat} {h : Held} (hr : w.rangeAt b o (ceL h)) : w.cell? ⟨b, o, none⟩ = some (.int .u64 (h.1 : Nat)) := hr 0 _ rfl
theorem ce_l {w : World} {b o : Nat} {h : Held} (hr : w.rangeAt b o (ceL h)) : w.rangeAt b (o + 1) (ar 32 h.2).toList := fun j v hj => by
  have := hr (j + 1) v (by unfold ceL; rw [List.getElem?_cons_succ]; exact hj)
  rwa [show o + (j + 1) = o + 1 + j by omega] at this
theorem built_ce0 : Tryz.prog.built 102 [] = some (ceL (0, zero)).toArray := by kernel_rfl
def ceq (a b : Held) : Bool := decide (a.1 = b.1) && eqA 32 a.2 b.2
end ClP
end Go.Proofs.YtklmjdhhnnanoaaGreatDoor
set_option maxRecDepth 100000
namespace Go.Proofs.YtklmjdhhnnanoaaGreatDoor
open Go.ChangeShapes Go.WideShapes Go.ChangeAt Go.RowKit
section
variable {α : Type} {E L : TypeId} {k : Nat} {en : α → List Value} {w : World} {g cap : Nat} {l : List α}
theorem own_of_ranges {cur : Array Value} (hE : ∀ x, (en x).length = k) (hk : 0 < k) (hg : w.heap[g]? = some (.cells cur E (0, 0))) (hcs : cur.size = cap * k) (hn : l.length ≤ cap) (hcm : cap ≤ maxLen)
    (hr : ∀ (q : Nat) x, l[q]? = some x → w.rangeAt g (q * k) (en x)) : OwnX E k en w 0 (.slice (some ⟨g, 0, none⟩) l.length cap) l := by
  refine ⟨flat_len hE l, .inr ⟨g, cap, cur, rfl, Nat.zero_le _, hg, hn, hcm, hcs, ?_⟩⟩
  have hlk : l.length * k ≤ cap * k := Nat.mul_le_mul_right k hn
  refine List.ext_getElem? fun m => ?_
  by_cases hm : m < l.length * k
  · rw [List.getElem?_take_of_lt hm, Array.getElem?_toList]
    have hq : m / k < l.length := Nat.div_lt_of_lt_mul (by rw [Nat.mul_comm]; exact hm)
    have hrm := Nat.mod_lt m hk
    have hx : l[m / k]? = some l[m / k] := List.getElem?_eq_getElem hq
    have h1 := flat_at hE l (m / k) (m % k) _ hx hrm
    have hmm : m / k * k + m % k = m := by rw [Nat.mul_comm]; exact Nat.div_add_mod m k
    rw [hmm] at h1
    have hlen := hE l[m / k]
    have h2 : (en l[m / k])[m % k]? = some (en l[m / k])[m % k] := List.getElem?_eq_getElem (by omega)
    have h3 := hr _ _ hx (m % k) _ h2
    rw [hmm, cell_of_row w g m cur E (0, 0) hg] at h3
    rw [h3, h1, h2]
  · rw [List.getElem?_eq_none (by rw [List.length_take]; omega), List.getElem?_eq_none (by rw [flat_len hE]; omega)]
theorem cells_setCells {t : TypeId} {N : Nat} : ∀ (vs : List Value) (o : Nat) (w : World), (∃ cur, w.heap[g]? = some (.cells cur t (0, 0)) ∧ cur.size = N) → ∃ cur, (w.setCells g o vs).heap[g]? = some (.cells cur t (0, 0)) ∧ cur.size = N
  | [], _, _, h => h
  | v :: vs, o, w, ⟨cur, h1, h2⟩ => by
    have h3 : Blk w g t cur := h1
    exact cells_setCells vs (o + 1) _ ⟨_, h3.setCell_same o v, by rw [Array.size_setIfInBounds]; exact h2⟩
theorem turn_setCells : ∀ (vs : List Value) (o : Nat) (w : World), Turn (fun b => b = g) w (w.setCells g o vs)
  | [], _, _ => Turn.refl _ _
  | v :: vs, o, w => (Turn.setCell (S := fun b => b = g) w ⟨g, o, none⟩ v rfl).trans (turn_setCells vs (o + 1) _) fun _ e => .inl e
theorem there_of {t : TypeId} {cur : Array Value} {o m : Nat} (h : w.heap[g]? = some (.cells cur t (0, 0))) (hm : o + m ≤ cur.size) : w.there g o m := fun j hj => by
  have hb : Blk w g t cur := h
  refine ⟨?_, hb.frozen _⟩
  rw [cell_of_row w g (o + j) cur t (0, 0) h, Array.getElem?_eq_getElem (by omega)]
  rfl
theorem zeros_len (z : Array Value) (m : Nat) : (Builtin.zeroCells z m).toList.length = m * z.size := by simp [Builtin.zeroCells]
theorem zeros_mem {z : Array Value} {m : Nat} {v : Value} (hv : v ∈ (Builtin.zeroCells z m).toList) (hz : 0 < z.size) : v ∈ z.toList := by
  simp only [Builtin.zeroCells, Array.toList_map, List.mem_map] at hv
  obtain ⟨i, _, rfl⟩ := hv
  have hi : i % z.size < z.size := Nat.mod_lt _ hz
  rw [getElem!_pos z _ hi]
  exact Array.getElem_mem_toList hi
theorem run_clr {ty : TypeId} {z : Array Value} {o m c : Nat} (hu : Tryz.prog.underlying L = some (.slice E)) (hz : ∀ w, (zeroValue E).run Tryz.prog w = .ok (.agg z) w) (hzk : 0 < z.size) (h1 : ∀ u ∈ z.toList, u.oneCell' = true) (ht : w.there g o (m * z.size)) :
    ∃ zs : List Value, zs.length = m * z.size ∧ (Builtin.clear_ #[L] ty #[.slice (some ⟨g, o, none⟩) m c]).run Tryz.prog w = .ok (.tuple #[]) (w.setCells g o zs) := by
  refine ⟨(Builtin.zeroCells z m).toList, zeros_len z m, ?_⟩
  cases m with
  | zero =>
    have : (Builtin.zeroCells z 0).toList = [] := List.eq_nil_of_length_eq_zero (by rw [zeros_len, Nat.zero_mul])
    rw [this]
    simp [Builtin.clear_, run_underlying hu, Result.andThen, World.setCells]
  | succ m =>
    have hst := run_storeCells_cells (P := Tryz.prog) g o (Builtin.zeroCells z (m + 1)).toList 0 w (fun j hj => by rw [Nat.add_zero]; exact (ht j (by rw [zeros_len] at hj; exact hj)).1) (fun j hj => by rw [Nat.add_zero]; exact (ht j (by rw [zeros_len] at hj; exact hj)).2)
      (fun v hv => h1 v (zeros_mem hv hzk))
    simp only [Nat.add_zero] at hst
    simp [Builtin.clear_, run_underlying hu, hz, Value.cells, hst, Result.andThen]
variable {ops : Array Oper} {Q : Exit → Act → World → Prop} {a : Act} {rest : List Oper} {dst : Option Tmp} {ty : TypeId} {pos : String} {after : Array Edge} {x : Operand}
theorem wclr {z : Array Value} {o m c : Nat} (hu : Tryz.prog.underlying L = some (.slice E)) (hz : ∀ w, (zeroValue E).run Tryz.prog w = .ok (.agg z) w) (hzk : 0 < z.size) (h1 : ∀ u ∈ z.toList, u.oneCell' = true) (hx : a.eval x = .slice (some ⟨g, o, none⟩) m c) (ht : w.there g o (m * z.size))
    (h : ∀ zs : List Value, zs.length = m * z.size → wpList Tryz.prog ops Q rest (a.put dst (.tuple #[])) (w.setCells g o zs)) :
    wpList Tryz.prog ops Q (⟨dst, .call { callee := .builtin .clear, args := #[x], argTypes := #[L] }, ty, pos, after, none⟩ :: rest) a w := by
  obtain ⟨zs, h2, hr⟩ := run_clr (ty := ty) (m := m) (c := c) hu hz hzk h1 ht
  refine wpList_plain rfl fun K hK => ?_
  unfold Oper.wp execOp
  simp only [resolve, invoke, builtin, Sem.run_bind, Sem.run_pure, Result.andThen_ok, List.map_toArray, List.map_cons, List.map_nil, hx, hr]
  exact hK _ _ (h zs h2)
theorem stRM {T : TypeId} {cs : Array Value} {o : Nat} {y : Operand} (hT : RowT T cs.size) (hx : a.eval x = .pointer (some ⟨g, o, none⟩)) (hy : a.eval y = .agg cs) (ht : w.there g o cs.size) (h1 : cs.all (·.oneCell') = true)
    (h : wpList Tryz.prog ops Q rest (a.put dst undef) (w.setCells g o cs.toList)) : wpList Tryz.prog ops Q (⟨dst, .store T x y, ty, pos, after, none⟩ :: rest) a w :=
  wpList_store_mid rfl T x y rfl g o cs hx hy ht hT.size h1 h
theorem wslF {y : Operand} {n c m : Nat} (hE : EltX E k en) (hu : Tryz.prog.underlying L = some (.slice E)) (hel : Tryz.prog.elem L = E) (hx : a.eval x = .slice (some ⟨g, 0, none⟩) n c) (hy : a.eval y = .int .i64 m) (hm : m ≤ n) (hc : m < c)
    (h : wpList Tryz.prog ops Q rest (a.put dst (.slice (some ⟨g, m * k, none⟩) (n - m) (c - m))) w) : wpList Tryz.prog ops Q (⟨dst, .slice L x (some y) none none, ty, pos, after, none⟩ :: rest) a w := by
  obtain ⟨ie, z, hi, hz, h1, h2, h3⟩ := hE.info
  have hsz : (sizeOf (Tryz.prog.elem L)).run Tryz.prog w = .ok k w := by rw [hel]; simp [sizeOf, typeInfo, hi, h1]
  have hu' : Tryz.prog.underlying L = some (.slice (Tryz.prog.elem L)) := by rw [hel]; exact hu
  have hr : (Instr.sliceAt L (.slice (some ⟨g, 0, none⟩) n c) (some (.int .i64 m)) none none).run Tryz.prog w = .ok (.slice (some ⟨g, m * k, none⟩) (n - m) (c - m)) w := by
    rw [run_sliceAt_slice w L _ _ _ _ hu', run_slice_l w L _ n c hu' .i64 m (by omega) (by omega), hsz]
    simp only [Result.andThen, sliced, Int.toNat_natCast]
    rw [if_neg (by omega), Option.map_some, Addr.add_mid, Nat.zero_add]
  refine wpList_plain rfl fun K hK => ?_
  unfold Oper.wp execOp
  simp only [Sem.run_bind, Option.map_some, Option.map_none, Sem.run_pure, hx, hy, hr, Result.andThen_ok]
  exact hK _ _ h
theorem wslT {y : Operand} {n c m : Nat} (hE : EltX E k en) (hu : Tryz.prog.underlying L = some (.slice E)) (hel : Tryz.prog.elem L = E) (hx : a.eval x = .slice (some ⟨g, 0, none⟩) n c) (hy : a.eval y = .int .i64 m) (hm : m < c)
    (h : wpList Tryz.prog ops Q rest (a.put dst (.slice (some ⟨g, 0, none⟩) m c)) w) : wpList Tryz.prog ops Q (⟨dst, .slice L x none (some y) none, ty, pos, after, none⟩ :: rest) a w := by
  obtain ⟨ie, z, hi, hz, h1, h2, h3⟩ := hE.info
  have hsz : (sizeOf (Tryz.prog.elem L)).run Tryz.prog w = .ok k w := by rw [hel]; simp [sizeOf, typeInfo, hi, h1]
  have hu' : Tryz.prog.underlying L = some (.slice (Tryz.prog.elem L)) := by rw [hel]; exact hu
  have hr : (Instr.sliceAt L (.slice (some ⟨g, 0, none⟩) n c) none (some (.int .i64 m)) none).run Tryz.prog w = .ok (.slice (some ⟨g, 0, none⟩) m c) w := by
    rw [run_sliceAt_slice w L _ _ _ _ hu', run_slice_h w L _ n c hu' .i64 m (by omega) (by omega), hsz]
    simp only [Result.andThen, sliced, Int.toNat_natCast, Nat.sub_zero]
    rw [if_neg (by omega), Option.map_some, Addr.add_mid, Nat.zero_mul, Nat.zero_add]
  refine wpList_plain rfl fun K hK => ?_
  unfold Oper.wp execOp
  simp only [Sem.run_bind, Option.map_some, Option.map_none, Sem.run_pure, hx, hy, hr, Result.andThen_ok]
  exact hK _ _ h
end
theorem OwnX.obj {w : World} {α : Type} {E : TypeId} {k : Nat} {en : α → List Value} {B b : Nat} {v : Value} {l : List α} (h : OwnX E k en w B v l) (hb : v.ownBlock = some b) : ∃ cur, w.heap[b]? = some (.cells cur E (0, 0)) := by
  rcases h.2 with ⟨rfl, _⟩ | ⟨g, cap, cur, rfl, _, hg, _⟩
  · cases hb
  · cases hb
    exact ⟨cur, hg⟩
section
variable {ops : Array Oper} {Q : Exit → Act → World → Prop} {a : Act} {w : World} {rest : List Oper} {dst : Option Tmp} {ty T : TypeId} {pos : String} {after : Array Edge} {z cs : Array Value} {g : Nat} {t : TypeId}
theorem alZ' (hz : ∀ w, (zeroValue T).run Tryz.prog w = .ok (.agg z) w) (h : wpList Tryz.prog ops Q rest (a.put dst (.pointer (some ⟨w.heap.size, 0, none⟩))) (w.alloc (.cells z T))) :
    wpList Tryz.prog ops Q (⟨dst, .alloc T, ty, pos, after, none⟩ :: rest) a w := by
  have hr : (Instr.alloc T true (.tuple #[])).run Tryz.prog w = .ok (.pointer (some ⟨w.heap.size, 0, none⟩)) (w.alloc (.cells z T)) := by
    simp [Instr.alloc, Sem.run_bind, hz w, newVar, newRow, Value.cells]
  refine wpList_plain rfl fun K hK => ?_
  unfold Oper.wp execOp
  simp only [Sem.run_bind, hr, Result.andThen_ok, Sem.run_pure]
  exact hK _ _ h
theorem ret_row' {fn : Func} {R : Ending → World → Prop} {p : Tmp} (hT : RowT T cs.size) (hr : fn.results = #[.cell p T]) (hp : a.tmps.getD p undef = .pointer (some ⟨g, 0, none⟩)) (hdf : a.defers = [])
    (hb : Blk w g t cs) (hR : R (.returned (.agg cs)) w) : bodyPost Tryz.prog fn R .ret a w := by
  obtain ⟨d, h1, h2⟩ := hT.desc
  exact ret_row hr hb h1 h2 hT.size hp hdf hR
end
end Go.Proofs.YtklmjdhhnnanoaaGreatDoor
set_option maxRecDepth 100000
namespace Go.Proofs.YtklmjdhhnnanoaaGreatDoor
open Go.ChangeShapes Go.WideShapes Go.ChangeAt Go.RowKit
attribute [local go_sem] Gives GivesE
namespace ClP
def rcF (c : Nat) (l : Nat → Nat) (v : Value) (j : Nat) : Value := if j = 0 then .int .u64 (c : Nat) else if j = 33 then v else .int .u8 (l (j - 1) : Nat)
def rcV (c : Nat) (l : Nat → Nat) (v : Value) : Array Value := row 34 (rcF c l v)
section
variable {w : World} {g c : Nat} {l : Nat → Nat} {v : Value} {t : TypeId}
end
theorem rcV_list (c : Nat) (l : Nat → Nat) (v : Value) : rcV c l v = (Value.int .u64 (c : Nat) :: ((ar 32 l).toList ++ [v])).toArray := by
  apply Array.ext'
  apply List.ext_getElem?
  intro j
  rw [Array.getElem?_toList]
  show _ = (Value.int .u64 (c : Nat) :: ((ar 32 l).toList ++ [v]))[j]?
  have hs : (ar 32 l).toList.length = 32 := by rw [Array.length_toList, size_ar]
  by_cases hj : j < 34
  · rw [rcV, get_row_lt hj]
    unfold rcF
    cases j with
    | zero => rfl
    | succ j =>
      rw [List.getElem?_cons_succ, if_neg (by omega), show j + 1 - 1 = j by omega]
      by_cases h33 : j = 32
      · subst h33
        rw [if_pos rfl, List.getElem?_append_right (by omega), hs]; rfl
      · rw [if_neg (by omega), List.getElem?_append_left (by omega), Array.getElem?_toList, ar, get_row_lt (by omega)]
  · rw [Array.getElem?_eq_none (by rw [rcV, size_row]; omega), List.getElem?_eq_none (by rw [List.length_cons, List.length_append, hs, List.length_cons, List.length_nil]; omega)]
theorem built_rc (c : Nat) (l : Nat → Nat) (A : Option Addr) (n k : Nat) : Tryz.prog.built 158 [(0, .int .u64 (c : Nat)), (1, .agg (ar 32 l)), (2, .slice A n k)] = some (rcV c l (.slice A n k)) := by
  have h := built_struct (T := 158) (ss := [(0, 1), (1, 32), (33, 1)]) (N := 34) (by kernel_rfl) Tryz.underlying158 (by kernel_rfl) ⟨rfl, rfl, rfl, trivial⟩ rfl [.int .u64 (c : Nat), .agg (ar 32 l), .slice A n k] (by simp [Value.cells, size_ar])
  simp only [partsAt] at h
  rw [h, rcV_list]
  simp [Value.cells]
section
variable {ops : Array Oper} {Q : Exit → Act → World → Prop} {a : Act} {w : World} {rest : List Oper} {dst : Option Tmp} {ty : TypeId} {pos : String} {after : Array Edge} {x y z : Operand} {c n k : Nat} {l : Nat → Nat} {A : Option Addr} {C : World → Prop} {Qk : Act → Prop} {gd : Option (Nat × Bool)}
theorem ev2 {u v : Value} (hx : a.eval x = u) (hy : a.eval y = v) : (#[(0, x), (1, y)] : Array (Nat × Operand)).map (fun (i, x) => (i, a.eval x)) = #[(0, u), (1, v)] := by
  simp only [List.map_toArray, List.map_cons, List.map_nil, hx, hy]
theorem ev3 {u v t : Value} (hx : a.eval x = u) (hy : a.eval y = v) (hz : a.eval z = t) : (#[(0, x), (1, y), (2, z)] : Array (Nat × Operand)).map (fun (i, x) => (i, a.eval x)) = #[(0, u), (1, v), (2, t)] := by
  simp only [List.map_toArray, List.map_cons, List.map_nil, hx, hy, hz]
theorem run_rc (c : Nat) (l : Nat → Nat) (A : Option Addr) (n k : Nat) (w : World) : (Instr.build 158 #[(0, .int .u64 (c : Nat)), (1, .agg (ar 32 l)), (2, .slice A n k)]).run Tryz.prog w = .ok (.agg (rcV c l (.slice A n k))) w := run_build w _ _ _ (built_rc c l A n k)
theorem wblR (hx : a.eval x = .int .u64 (c : Nat)) (hy : a.eval y = .agg (ar 32 l)) (hz : a.eval z = .slice A n k) (h : wpList Tryz.prog ops Q rest (a.put dst (.agg (rcV c l (.slice A n k)))) w) :
    wpList Tryz.prog ops Q (⟨dst, .build 158 #[(0, x), (1, y), (2, z)], ty, pos, after, none⟩ :: rest) a w := by
  refine wpList_plain rfl fun K hK => ?_
  unfold Oper.wp execOp
  simp only [Sem.run_bind, ev3 hx hy hz, run_rc, Result.andThen_ok, Sem.run_pure]
  exact hK _ _ h
end
structure Rc (w : World) (g : Nat) (v : Value) (L : List Held) (h : Held) : Prop where
  blk : Blk w g 158 (rcV h.1 h.2 v)
  lg : OwnX 102 33 ceL w 0 v L
section
variable {w w' : World} {g : Nat} {v : Value} {l : List Held} {h : Held} {T : Nat → Prop}
theorem Rc.turn (H : Rc w g v l h) (ht : Turn T w w') (hg : ¬ T g) (hv : ∀ b, v.ownBlock = some b → ¬ T b) : Rc w' g v l h := ⟨H.blk.turn ht hg, H.lg.turn ht hv⟩
theorem Rc.below (H : Rc w g v l h) (hb : Below w.heap.size w w') : Rc w' g v l h := ⟨H.blk.below hb H.blk.lt, H.lg.below hb (Nat.le_refl _)⟩
theorem Rc.ne (H : Rc w g v l h) : v.ownBlock ≠ some g := fun e => by
  obtain ⟨c, hc⟩ := H.lg.obj e
  have h2 : w.heap[g]? = some (.cells _ 158 (0, 0)) := H.blk
  rw [hc] at h2
  simp at h2
end
end ClP
end Go.Proofs.YtklmjdhhnnanoaaGreatDoor
set_option maxRecDepth 100000
namespace Go.Proofs.YtklmjdhhnnanoaaGreatDoor
open Go.ChangeShapes Go.WideShapes Go.ChangeAt Go.RowKit
attribute [local go_sem] Gives GivesE
namespace ClP
def ptr' (g : Nat) : Value := .pointer (some ⟨g, 0, none⟩)
def most : Nat := 4611686018427387904
def rSet (g : Nat) (v : Value) (b : Nat) : Prop := b = g ∨ v.ownBlock = some b
set_option maxHeartbeats 600000 in
set_option maxRecDepth 100000 in
theorem rnew_any (c : Nat) (l : Nat → Nat) (hc : c ≤ most) (w : World) :
    Calls Tryz.prog 35 #[.agg (ceL (c, l)).toArray] w fun e w' => ∃ g, e = .returned (.tuple #[ptr' g, .int .i64 0]) ∧ ∃ v, Rc w' g v [((c, l) : Held)] (c, l) ∧ (∀ b, rSet g v b → w.heap.size ≤ b) ∧ Below w.heap.size w w' := by
  unfold ptr'
  have t1 : decide ((4611686018427387904 : Int) < (c : Int)) = false := by unfold most at hc; simp; omega
  have t2 : ¬ 4611686018427387904 < c := by unfold most at hc; omega
  clear hc
  go_enter Tryz.func35, Tryz.ntmps35
  go_upto_region 1 with fail
  generalize hw1 : World.alloc w _ = w1
  have b1 := hid (show Blk w1 w.heap.size 102 (ceL (c, l)).toArray by rw [← hw1]; exact Blk.new _ _ _)
  have BEL := hid (show Below w.heap.size w w1 by rw [← hw1]; exact (Below.refl _ _).alloc (Nat.le_refl _) _)
  clear hw1
  have q0 : w1.cell? ⟨w.heap.size, 0, none⟩ = some (.int .u64 (c : Nat)) := ce_n b1.out.whole
  have q1 := hid (ce_l b1.out.whole)
  go_wp2_with (first
    | ((with_reducible apply ldAm tTg); rfl; exact q1.out)
    | ((with_reducible apply ldR (cs := (ceL (c, l)).toArray) (tCe (c, l))); rfl; exact b1.out.whole)
    | ((with_reducible apply wlit1 eltCe undCe (x := ((c, l) : Held))); omega; rfl; rfl)
    | ((with_reducible apply wblR); rfl; rfl; rfl))
  go_ret2
  have hl : OwnX 102 33 ceL (w1.alloc (.cells (ceL (c, l)).toArray 102)) 0 (.slice (some ⟨w1.heap.size, 0, none⟩) 1 1) [((c, l) : Held)] :=
    own_of_ranges (l := [((c, l) : Held)]) (cap := 1) ceL_len (by omega) (heap_alloc_new w1 _) (by rw [List.size_toArray, ceL_len]) (Nat.le_refl _) (by unfold maxLen; omega) fun q x hx j u hu => by
      cases q with
      | zero =>
        simp only [List.getElem?_cons_zero, Option.some.injEq] at hx
        subst hx
        have hb : Blk (w1.alloc (.cells (ceL (c, l)).toArray 102)) w1.heap.size 102 (ceL (c, l)).toArray := Blk.new _ _ _
        rw [Nat.zero_mul, Nat.zero_add, hb.cell]
        simpa using hu
      | succ q => simp at hx
  refine ⟨w1.heap.size + 1, by simp, .slice (some ⟨w1.heap.size, 0, none⟩) 1 1, ⟨Blk.top rfl (by simp), hl.below ((Below.refl _ _).alloc (Nat.le_refl _) _) (Nat.le_refl _)⟩, fun b hb => ?_, (BEL.out.alloc BEL.out.size _).alloc (by have := BEL.out.size; simp; omega) _⟩
  have := BEL.out.size
  rcases hb with rfl | e
  · omega
  · cases e; omega
section
variable {w : World} {g : Nat} {v : Value} {L : List Held} {h : Held}
end
section
variable {ops : Array Oper} {a : Act} {w : World} {rest : List Oper} {dst : Option Tmp} {ty r : TypeId} {pos : String} {after : Array Edge} {x y : Operand} {C : World → Prop} {Qk : Act → Prop} {gd : Option (Nat × Bool)} {p q : Held}
end
end ClP
end Go.Proofs.YtklmjdhhnnanoaaGreatDoor
set_option maxRecDepth 100000
namespace Go.Proofs.YtklmjdhhnnanoaaGreatDoor
section
variable {P : Program} {ops : Array Oper}
end
end Go.Proofs.YtklmjdhhnnanoaaGreatDoor
set_option maxRecDepth 100000
namespace Go.Proofs.YtklmjdhhnnanoaaGreatDoor
open Go.ChangeShapes Go.WideShapes Go.ChangeAt Go.RowKit
attribute [local go_sem] Gives GivesE
namespace ClP
abbrev At := Nat × Nat
abbrev Cs := At → Prop
structure TurnC (M : Cs) (w w' : World) : Prop where
  out : Turn (fun b => ∃ i, M (b, i)) w w'
  cell : ∀ b i, b < w.heap.size → ¬ M (b, i) → w'.cell? ⟨b, i, none⟩ = w.cell? ⟨b, i, none⟩
theorem TurnC.size {M : Cs} {w w' : World} (h : TurnC M w w') : w.heap.size ≤ w'.heap.size := h.out.size
theorem TurnC.of_turn {T : Nat → Prop} {w w' : World} (h : Turn T w w') : TurnC (fun b => T b.1) w w' where
  out := h.mono fun _ e => ⟨0, e⟩
  cell b i hb hn := World.cell?_of_block (h.block b hb hn)
theorem TurnC.of_below {B : Nat} {w w' : World} (h : Below B w w') : TurnC (fun b => B ≤ b.1) w w' := TurnC.of_turn (Turn.of_below h)
theorem TurnC.mono {M N : Cs} {w w' : World} (h : TurnC M w w') (hM : ∀ b, M b → N b) : TurnC N w w' where
  out := h.out.mono fun _ ⟨i, e⟩ => ⟨i, hM _ e⟩
  cell b i hb hn := h.cell b i hb fun e => hn (hM _ e)
abbrev RepC := World → Nat → Cs → Cs → List Held → Held → Prop
def outC (rep : RepC) (w : World) (g : Nat) (M I : Cs) (L : List Held) (h : Held) (w' : World) : Prop :=
  ∃ M' I', rep w' g M' I' L h ∧ (∀ b, M' b → M b ∨ w.heap.size ≤ b.1) ∧ (∀ b, I' b → M b ∨ I b ∨ w.heap.size ≤ b.1) ∧ TurnC M w w'
structure C1 (rep : RepC) (B : Nat) (w : World) (g : Nat) (M I : Cs) (L : List Held) (h : Held) : Prop where
  prog : rep w g M I L h
  low : ∀ b, M b ∨ I b → B ≤ b.1
  base : B ≤ w.heap.size
def Went (w : World) (M I : Cs) (w' : World) (M' I' : Cs) : Prop :=
  (∀ b, M' b → M b ∨ w.heap.size ≤ b.1) ∧ (∀ b, I' b → M b ∨ I b ∨ w.heap.size ≤ b.1) ∧ TurnC M w w'
section
variable {rep : RepC} {B g : Nat} {w w' : World} {M I M' I' : Cs} {L L' : List Held} {h h' : Held}
theorem C1.out (H : C1 rep B w g M I L h) (ho : outC rep w g M I L' h' w') : ∃ M' I', C1 rep B w' g M' I' L' h' ∧ Went w M I w' M' I' := by
  obtain ⟨M', I', h1, h2, h3, h4⟩ := ho
  refine ⟨M', I', ⟨h1, fun b hb => ?_, Nat.le_trans H.base h4.size⟩, h2, h3, h4⟩
  rcases hb with hb | hb
  · rcases h2 b hb with e | e
    · exact H.low b (.inl e)
    · exact Nat.le_trans H.base e
  · rcases h3 b hb with e | e | e
    · exact H.low b (.inl e)
    · exact H.low b (.inr e)
    · exact Nat.le_trans H.base e
theorem C1.went (H : C1 rep B w g M I L h) (hw : Went w M I w' M' I') : Below B w w' := hw.2.2.out.below H.base fun b ⟨i, e⟩ => H.low (b, i) (.inl e)
end
def lab1 (x : Nat) : Nat → Nat := fun j => if j = 0 then x else 0
theorem run_ce0 (w : World) : (Instr.build 102 #[]).run Tryz.prog w = .ok (.agg (ceL (0, zero)).toArray) w := run_build w _ _ _ built_ce0
section
variable {ops : Array Oper} {Q : Exit → Act → World → Prop} {a : Act} {w : World} {rest : List Oper} {dst : Option Tmp} {ty : TypeId} {pos : String} {after : Array Edge}
end
end ClP
end Go.Proofs.YtklmjdhhnnanoaaGreatDoor
set_option maxRecDepth 100000
namespace Go.Proofs.YtklmjdhhnnanoaaGreatDoor
namespace BuM
open MbM
structure Stp where
  a : Int
  kind : Int
  m : Int
  i : Int
  n : Int
  s : Nat → Nat
  picks : List Nat
structure Ent where
  d : Int
  m : Int
  i : Int
  s : Nat → Nat
  e : Int
structure Bs where
  ms : List St
  c : ClP.Held
  steps : List Stp
  off : Bool
  log : List Ent
def crashAll : List St → List Nat → List St
  | [], _ => []
  | st :: l, p => crash st (p.take st.log.length) :: crashAll l (p.drop st.log.length)
def deed (s : Stp) (st : St) : St :=
  if s.kind = 1 then seT st s.i s.s else if s.kind = 2 then mkT st else if s.kind = 3 then bkT st s.n else if s.kind = 4 then fail st true else if s.kind = 5 then fail st false else st
def mem (l : List St) (m : Int) : Bool := decide (0 ≤ m ∧ m < l.length)
def at' (l : List St) (m : Int) : St := l.getD m.toNat (made 1)
def hand (now : Nat) (s : Stp) (x : List St × Bool) : List St × Bool :=
  if s.a = (now : Int) then
    if s.kind = 6 then (crashAll x.1 s.picks, true)
    else if mem x.1 s.m then (x.1.set s.m.toNat (deed s (at' x.1 s.m)), x.2) else x
  else x
def hands (now : Nat) (l : List Stp) (x : List St × Bool) : List St × Bool := l.foldl (fun x s => hand now s x) x
def ahead (b : Bs) : Bs := { b with ms := (hands b.log.length b.steps (b.ms, b.off)).1, off := (hands b.log.length b.steps (b.ms, b.off)).2 }
def may (b : Bs) (m : Int) : Int := if b.off then 13 else if mem b.ms m then 0 else 2
def put (b : Bs) (x : Ent) : Bs := { b with log := b.log ++ [x] }
def upd (b : Bs) (m : Int) (st : St) : Bs := { b with ms := b.ms.set m.toNat st }
def rdB (b : Bs) (m i : Int) : Ent := if may b m = 0 then ⟨1, m, i, rdS (at' b.ms m) i, rdE (at' b.ms m) i⟩ else ⟨1, m, i, zero, may b m⟩
def rdT (b : Bs) (m i : Int) : Bs := put (ahead b) (rdB (ahead b) m i)
def wrB (b : Bs) (m i : Int) (x : Nat → Nat) : Ent := ⟨2, m, i, x, if may b m = 0 then rdE (at' b.ms m) i else may b m⟩
def wrM (b : Bs) (m i : Int) (x : Nat → Nat) : Bs := if may b m = 0 then upd b m (wrT (at' b.ms m) i x) else b
def wrT (b : Bs) (m i : Int) (x : Nat → Nat) : Bs := put (wrM (ahead b) m i x) (wrB (ahead b) m i x)
def flB (b : Bs) (m : Int) : Ent := ⟨3, m, 0, zero, if may b m = 0 then flE (at' b.ms m) else may b m⟩
def flM (b : Bs) (m : Int) : Bs := if may b m = 0 then upd b m (flT (at' b.ms m)) else b
def flT (b : Bs) (m : Int) : Bs := put (flM (ahead b) m) (flB (ahead b) m)
def pad (t : Nat → Nat) : Nat → Nat := fun j => if j < 32 then t j else 0
def ceB (b : Bs) : Ent := if b.off then ⟨4, 0, 0, zero, 13⟩ else ⟨4, 0, 0, pad b.c.2, 0⟩
def ceV (b : Bs) : ClP.Held := if b.off then (0, ClP.zero) else b.c
def ceT (b : Bs) : Bs := put (ahead b) (ceB (ahead b))
def full (h : ClP.Held) : Bool := decide (h.1 = ClP.most)
def adE (b : Bs) : Int := if b.off then 13 else if full b.c then 15 else 0
def adN (b : Bs) : Int := if b.off then 0 else if full b.c then 0 else ((b.c.1 + 1 : Nat) : Int)
def adB (b : Bs) (t : Nat → Nat) : Ent := ⟨5, 0, 0, pad t, adE b⟩
def adM (b : Bs) (t : Nat → Nat) : Bs := if b.off then b else if full b.c then b else { b with c := (b.c.1 + 1, t) }
def adT (b : Bs) (t : Nat → Nat) : Bs := put (adM (ahead b) t) (adB (ahead b) t)
def power (b : Bs) : Bs := { b with off := false }
def new (ms : List St) (c : ClP.Held) (steps : List Stp) : Bs := ⟨ms, c, steps, false, []⟩
def many (now : Nat) (l : List Stp) : Nat := l.countP fun s => decide (s.a = (now : Int))
theorem hands_cons (now : Nat) (s : Stp) (l : List Stp) (x : List St × Bool) : hands now (s :: l) x = hands now l (hand now s x) := rfl
theorem hands_snoc (now : Nat) (s : Stp) (l : List Stp) (x : List St × Bool) : hands now (l ++ [s]) x = hand now s (hands now l x) := by unfold hands; rw [List.foldl_append]; rfl
theorem crashAll_len : ∀ (l : List St) (p : List Nat), (crashAll l p).length = l.length
  | [], _ => rfl
  | _ :: l, p => by rw [crashAll, List.length_cons, crashAll_len l, List.length_cons]
theorem hand_len (now : Nat) (s : Stp) (x : List St × Bool) : (hand now s x).1.length = x.1.length := by
  unfold hand
  split
  · split
    · exact crashAll_len _ _
    · split
      · exact List.length_set
      · rfl
  · rfl
theorem hands_len (now : Nat) : ∀ (l : List Stp) (x : List St × Bool), (hands now l x).1.length = x.1.length
  | [], _ => rfl
  | s :: l, x => by rw [hands_cons, hands_len now l, hand_len]
def okS (s : Stp) : Prop := (∀ k, s.s k < 256) ∧ ∀ p ∈ s.picks, p < 256
def okM (l : List St) : Prop := ∀ st ∈ l, st.ok
theorem deed_ok {s : Stp} {st : St} (hs : okS s) (h : st.ok) : (deed s st).ok := by
  unfold deed
  split
  · exact se_ok h _ hs.1
  · split
    · exact mk_ok h
    · split
      · exact bk_ok h _
      · split
        · exact fa_ok h _
        · split
          · exact fa_ok h _
          · exact h
theorem crashAll_ok : ∀ {l : List St} (p : List Nat), okM l → okM (crashAll l p)
  | [], _, _ => fun _ h => by cases h
  | st :: l, p, h => fun x hx => by
    rw [crashAll] at hx
    rcases List.mem_cons.1 hx with rfl | hx
    · exact cr_ok (h st (List.mem_cons_self ..)) _
    · exact crashAll_ok _ (fun y hy => h y (List.mem_cons_of_mem _ hy)) x hx
theorem at_ok {l : List St} (h : okM l) (m : Int) : (at' l m).ok := by
  unfold at'
  rw [List.getD_eq_getElem?_getD]
  cases e : l[m.toNat]? with
  | none => exact made_ok 1
  | some st => exact h st (List.mem_of_getElem? e)
theorem set_ok {l : List St} (h : okM l) (k : Nat) {st : St} (hs : st.ok) : okM (l.set k st) := fun x hx => by
  rcases List.mem_or_eq_of_mem_set hx with e | rfl
  · exact h x e
  · exact hs
theorem hand_ok {now : Nat} {s : Stp} {x : List St × Bool} (hs : okS s) (h : okM x.1) : okM (hand now s x).1 := by
  unfold hand
  split
  · split
    · exact crashAll_ok _ h
    · split
      · exact set_ok h _ (deed_ok hs (at_ok h _))
      · exact h
  · exact h
theorem hands_ok {now : Nat} : ∀ {l : List Stp} {x : List St × Bool}, (∀ s ∈ l, okS s) → okM x.1 → okM (hands now l x).1
  | [], _, _, h => h
  | s :: l, x, hs, h => hands_ok (l := l) (fun t ht => hs t (List.mem_cons_of_mem _ ht)) (hand_ok (hs s (List.mem_cons_self ..)) h)
end BuM
end Go.Proofs.YtklmjdhhnnanoaaGreatDoor
set_option maxRecDepth 100000
namespace Go.Proofs.YtklmjdhhnnanoaaGreatDoor
open Go.ChangeShapes Go.WideShapes Go.ChangeAt Go.RowKit
attribute [local go_sem] Gives
namespace MbP
open MbM
theorem tSe : ArT 37 64 := ⟨by kernel_rfl, ⟨_, Tryz.underlying37, rfl⟩, (zero_of_info (P := Tryz.prog) (t := 37) (v := .agg (ar 64 fun _ => 0)) (n := 64) (by kernel_rfl)).1⟩
def atL (p : Pt) : List Value := .int .i64 p.i :: (ar 64 p.s).toList
theorem atL_len (p : Pt) : (atL p).length = 65 := by unfold atL; rw [List.length_cons, Array.length_toList, size_ar]
theorem atL_ones (p : Pt) : ∀ u ∈ atL p, u.oneCell' = true := fun u hu => by
  unfold atL at hu
  rcases List.mem_cons.1 hu with rfl | hu
  · rfl
  · have := Array.all_eq_true_iff_forall_mem.1 (row_one (n := 64) (f := fun j => Value.int .u8 (p.s j : Nat)) fun _ _ => rfl) u (by simpa [ar] using hu)
    exact this
theorem at_i {w : World} {b o : Nat} {p : Pt} (h : w.rangeAt b o (atL p)) : w.cell? ⟨b, o, none⟩ = some (.int .i64 p.i) := h 0 _ rfl
theorem at_s {w : World} {b o : Nat} {p : Pt} (h : w.rangeAt b o (atL p)) : w.rangeAt b (o + 1) (ar 64 p.s).toList := fun j v hj => by
  have := h (j + 1) v (by unfold atL; rw [List.getElem?_cons_succ]; exact hj)
  rwa [show o + (j + 1) = o + 1 + j by omega] at this
def okP (p : Pt) : Prop := (-9223372036854775808 ≤ p.i ∧ p.i ≤ 9223372036854775807) ∧ ∀ k, p.s k < 256
def tellS (o : Option (Nat → Nat)) : Value := .tuple #[.agg (ar 64 (o.getD zero)), .bool o.isSome]
abbrev OwnP' (w : World) (B : Nat) (v : Value) (l : List Pt) : Prop := OwnX 171 65 atL w B v l
end MbP
end Go.Proofs.YtklmjdhhnnanoaaGreatDoor
set_option maxRecDepth 100000
namespace Go.Proofs.YtklmjdhhnnanoaaGreatDoor
open Go.ChangeShapes Go.WideShapes Go.ChangeAt Go.RowKit
attribute [local go_sem] Gives
namespace MbP
open MbM
abbrev SlE := Option Addr × Nat × Nat
def slE (x : SlE) : List Value := [.slice x.1 x.2.1 x.2.2]
structure Ls where
  n : Int
  dur : List Pt
  log : List Pt
  marks : List (List Pt)
  fails : Bool
  hurt : Bool
def Ls.sem (s : Ls) : St := ⟨s.n, img s.dur, s.log, s.marks.map img, s.fails, s.hurt⟩
def mbC (n : Int) (A1 : Option Addr) (n1 c1 : Nat) (A2 : Option Addr) (n2 c2 : Nat) (A3 : Option Addr) (n3 c3 : Nat) (f h : Bool) : Array Value := #[.int .i64 n, .slice A1 n1 c1, .slice A2 n2 c2, .slice A3 n3 c3, .bool f, .bool h]
structure Rm (w : World) (g : Nat) (I : Nat → Prop) (s : Ls) (A1 : Option Addr) (c1 : Nat) (A2 : Option Addr) (c2 : Nat) (A3 : Option Addr) (c3 : Nat) : Prop where
  blk : Blk w g 61 (mbC s.n A1 s.dur.length c1 A2 s.log.length c2 A3 s.marks.length c3 s.fails s.hurt)
  dur : Sli 65 atL I w A1 s.dur s.dur.length c1
  log : Sli 65 atL I w A2 s.log s.log.length c2
  marks : ∃ xs : List SlE, Sli 1 slE I w A3 xs s.marks.length c3 ∧ ∀ (i : Nat) (l : List Pt), s.marks[i]? = some l → ∃ A c, xs[i]? = some (A, l.length, c) ∧ Sli 65 atL I w A l l.length c
  out : ¬ I g
  lt : ∀ b, I b → b < w.heap.size
section
variable {w w' : World} {g : Nat} {I J T : Nat → Prop} {s : Ls} {A1 A2 A3 : Option Addr} {c1 c2 c3 : Nat}
theorem Rm.turn (h : Rm w g I s A1 c1 A2 c2 A3 c3) (ht : Turn T w w') (hg : ¬ T g) (hI : ∀ b, I b → ¬ T b) : Rm w' g I s A1 c1 A2 c2 A3 c3 where
  blk := h.blk.turn ht hg
  dur := h.dur.turn ht fun b hb _ => hI b hb
  log := h.log.turn ht fun b hb _ => hI b hb
  marks := by
    obtain ⟨xs, h1, h2⟩ := h.marks
    exact ⟨xs, h1.turn ht fun b hb _ => hI b hb, fun i l hi => by
      obtain ⟨A, c, h3, h4⟩ := h2 i l hi
      exact ⟨A, c, h3, h4.turn ht fun b hb _ => hI b hb⟩⟩
  out := h.out
  lt b hb := Nat.lt_of_lt_of_le (h.lt b hb) ht.size
theorem Rm.below {B : Nat} (h : Rm w g I s A1 c1 A2 c2 A3 c3) (hb : Below B w w') (hB : w.heap.size ≤ B) : Rm w' g I s A1 c1 A2 c2 A3 c3 :=
  h.turn (Turn.of_below hb) (by have := h.blk.lt; omega) fun b hi => by have := h.lt b hi; omega
end
def seenL (s : Ls) (i : Int) : Nat → Nat := (find s.log i).getD ((find s.dur i).getD zero)
end MbP
end Go.Proofs.YtklmjdhhnnanoaaGreatDoor
set_option maxRecDepth 100000
namespace Go.Proofs.YtklmjdhhnnanoaaGreatDoor
open Go.ChangeShapes Go.WideShapes Go.ChangeAt Go.RowKit
attribute [local go_sem] Gives GivesE
namespace MbP
open MbM
def RM (w : World) (g : Nat) (I : Nat → Prop) (s : Ls) : Prop := ∃ A1 c1 A2 c2 A3 c3, Rm w g I s A1 c1 A2 c2 A3 c3
def RMo (w : World) (g : Nat) (I : Nat → Prop) (s : Ls) (w' : World) : Prop := ∃ J, RM w' g J s ∧ (∀ b, J b → I b ∨ w.heap.size ≤ b) ∧ Turn (fun b => b = g) w w'
theorem RMo.same {w w' : World} {g : Nat} {I : Nat → Prop} {s : Ls} (h : RM w g I s) (hb : Below w.heap.size w w') : RMo w g I s w' := by
  obtain ⟨A1, c1, A2, c2, A3, c3, h⟩ := h
  exact ⟨I, ⟨A1, c1, A2, c2, A3, c3, h.below hb (Nat.le_refl _)⟩, fun b e => .inl e, Turn.of_new hb⟩
def Ls.may (s : Ls) (i : Int) : Bool := decide (0 ≤ i ∧ i < s.n)
def readE (s : Ls) (i : Int) : Int := if s.may i then (if s.fails then 10 else 0) else 2
def readS (s : Ls) (i : Int) : Nat → Nat := if s.may i then (if s.fails then zero else seenL s i) else zero
def lookE (s : Ls) (i : Int) : Int := if s.may i then 0 else 2
def lookS (s : Ls) (i : Int) : Nat → Nat := if s.may i then (find s.dur i).getD zero else zero
section
variable {ops : Array Oper} {Q : Exit → Act → World → Prop} {a : Act} {w : World} {rest : List Oper} {dst : Option Tmp} {ty : TypeId} {pos : String} {after : Array Edge} {o1 o2 : Operand} {i : Int} {x : Nat → Nat}
end
end MbP
end Go.Proofs.YtklmjdhhnnanoaaGreatDoor
