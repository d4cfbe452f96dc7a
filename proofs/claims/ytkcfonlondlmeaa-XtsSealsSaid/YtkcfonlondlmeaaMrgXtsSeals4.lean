/-
  A region that draws its order, whose values may hang on the order and on what a call makes of the world: of each operation's value one states what it is like (S), what the world then holds of it (D, kept by what the others do: K), and which operations have come up (C).
  Arrays loaded, stored, held against each other, built, in regions that draw their order.
  A mode in memory; contracts of made and first.
  The document's own product, inverse and box, in plain numbers; what they are.
  Contracts of casemateref07's Mul, Inverse, bit, Box.
  What comes in, number by number.
  Slices of bytes that come in.
  Slices of slices of bytes that come in.
  Slices of slices of bytes of the call's own.
  The type of slices of bytes; bytes out of a literal.
  Contract of casemateref07.Boxes; slices of words of the call's own.
-/
import Derived.Test.YtkcfonlondlmeaaMrgXtsSeals3
import Derived.Deep.Slices
import Derived.OpenShut
import Derived.ChangeMaps5
import Derived.ChangeSlices
import Derived.Deep.Cut
set_option linter.unusedVariables false
namespace Go.Proofs.Ytkcfonlondlmeaa
open Go.RowKit
/-- One operation, carried out in the world w; R holds of what it yields and of the world behind it. -/
def GivesE (P : Program) (o : Oper) (a : Act) (w : World) (R : Value → World → Prop) : Prop :=
  match (execOp a.eval o).run P w with
  | .ok (.value u) w' => R u w'
  | .ok .skip w' => R undef w'
  | .ok (.enter f args) w' => Calls P f args w' fun e w'' => ∃ v, e = .returned v ∧ R v w''
  | _ => False
theorem wp_of_givesE {P : Program} {o : Oper} {a : Act} {w : World} {R : Value → World → Prop} {K : Act → World → Prop} {Q : Exit → Act → World → Prop}
    (h : GivesE P o a w R) (hK : ∀ v w', R v w' → K (a.put o.dst v) w') : o.wp P a w K Q := by
  unfold GivesE at h
  unfold Oper.wp
  generalize (execOp a.eval o).run P w = r at *
  cases r with
  | ok n w' =>
    cases n <;> simp only at h <;> simp only [Oper.upon]
    case value u => exact hK _ _ h
    case skip => exact hK _ _ h
    case enter f args => exact h.mono fun e w'' ⟨v, he, hr⟩ => by subst he; exact hK _ _ hr
  | halt x w' => cases h
theorem givesE_mono {P : Program} {o : Oper} {a : Act} {w : World} {R R' : Value → World → Prop} (h : GivesE P o a w R) (hr : ∀ v w', R v w' → R' v w') : GivesE P o a w R' := by
  unfold GivesE at *
  generalize (execOp a.eval o).run P w = r at *
  cases r with
  | ok n w' =>
    cases n <;> simp only at h ⊢
    case value u => exact hr _ _ h
    case skip => exact hr _ _ h
    case enter f args => exact h.mono fun e w'' ⟨v, he, hR⟩ => ⟨v, he, hr _ _ hR⟩
  | halt x w' => exact h
section
variable {P : Program} {ops : Array Oper}
/-- The head of a region: the first n operations, in whatever order; behind them the tail. -/
theorem head_anyE {Γ : Type} {n g : Nat} {Q : Exit → Act → World → Prop} {vals : Γ → Nat → Value} {C : Γ → Array Bool → World → Prop} {a0 : Act} (ht : tidy ops = true) (hn : n ≤ ops.size)
    (hstep : ∀ k o, k < n → ops[k]? = some o → ∀ γ L w, L.size = ops.size → Closed ops L → k ∈ Region.ready .any ops L → C γ L w →
      ((Region.wanted o (yielded ops (fr ops (vals γ) (fun j => decide (j < k)) ops.size a0).tmps) = true ∧ GivesE P o (fr ops (vals γ) (fun j => decide (j < k)) ops.size a0) w (fun v w' => ∃ γ', (∀ j, L.getD j false = true → vals γ j = vals γ' j) ∧ vals γ' k = v ∧ C γ' (L.setIfInBounds k true) w')) ∨
      (Region.wanted o (yielded ops (fr ops (vals γ) (fun j => decide (j < k)) ops.size a0).tmps) = false ∧ ∃ γ', (∀ j, L.getD j false = true → vals γ j = vals γ' j) ∧ vals γ' k = undef ∧ C γ' (L.setIfInBounds k true) w)))
    (hsink : ∀ L, L.size = ops.size → Closed ops L → (∀ t, n ≤ t → t < ops.size → L.getD t true = false) → ∀ i, i < n → L.getD i true = false → ∀ t ∈ Region.ready .any ops L, t < n)
    (htail : ∀ γ L w, L.size = ops.size → (∀ i, i < n → L.getD i false = true) → (∀ t, n ≤ t → t < ops.size → L.getD t true = false) → C γ L w →
      wpAny P .any ops Q g L (fr ops (vals γ) (fun j => decide (j < n)) ops.size a0) w) :
    ∀ (f : Nat) (γ : Γ) (L : Array Bool) (w : World), L.size = ops.size → Closed ops L → (∀ t, n ≤ t → t < ops.size → L.getD t true = false) → cnt n L = f → C γ L w →
      wpAny P .any ops Q (f + g) L (fr ops (vals γ) (fun j => L.getD j false) ops.size a0) w
  | 0, γ, L, w, hs, hcl, htl, hc, hC => by
    have hall : ∀ i, i < n → L.getD i false = true := fun i hi => by
      have h1 : ∀ j ∈ List.range n, ¬ (!L.getD j true) = true := List.countP_eq_zero.1 hc
      have h2 := h1 i (List.mem_range.2 hi)
      exact getD_up (by omega) (by simpa using h2)
    rw [Nat.zero_add, fr_congr (l' := fun j => decide (j < n)) fun j hj => ?_]
    · exact htail γ L w hs hall htl hC
    · by_cases hjn : j < n
      · rw [hall j hjn]; simp [hjn]
      · rw [getD_both (htl j (by omega) hj)]; simp [hjn]
  | f + 1, γ, L, w, hs, hcl, htl, hc, hC => by
    rw [show f + 1 + g = (f + g) + 1 by omega]
    -- the least that has not come up may come up
    have hex : ∃ i, i < n ∧ L.getD i true = false := by
      have hpos : 0 < (List.range n).countP fun i => !L.getD i true := by unfold cnt at hc; omega
      obtain ⟨i, hi, h1⟩ := List.countP_pos_iff.1 hpos
      exact ⟨i, List.mem_range.1 hi, by simpa using h1⟩
    have hready : ∃ i, i ∈ Region.ready .any ops L := by
      obtain ⟨i, hi, hun⟩ := hex
      induction i using Nat.strongRecOn with
      | _ i ih =>
        by_cases hless : ∃ j, j < i ∧ L.getD j true = false
        · obtain ⟨j, hj, hjun⟩ := hless
          exact ih j hj (by omega) hjun
        · have hio : i < ops.size := by omega
          refine ⟨i, mem_ready.2 ⟨hun, ops[i], Array.getElem?_eq_getElem hio, fun e he hb => ?_⟩⟩
          have hlt := tidy_edge ht (Array.getElem?_eq_getElem hio) e he hb
          refine getD_up (by omega) ?_
          cases h0 : L.getD e.on true with
          | true => rfl
          | false => exact absurd ⟨e.on, hlt, h0⟩ hless
    obtain ⟨i0, hi0, hun0⟩ := hex
    refine ⟨fun h0 => (by obtain ⟨i, hi⟩ := hready; rw [h0] at hi; cases hi), fun i hi => ?_⟩
    have hin : i < n := hsink L hs hcl htl i0 hi0 hun0 i hi
    obtain ⟨hun, o, ho, _⟩ := mem_ready.1 hi
    have hio : i < ops.size := by omega
    obtain ⟨hex1, hex2⟩ := exec_same (vals := vals γ) (n := ops.size) (a := a0) ht ho hcl hi
    have hst := hstep i o hin ho γ L w hs hcl hi hC
    have hnext : ∀ γ' w', (∀ j, L.getD j false = true → vals γ j = vals γ' j) → C γ' (L.setIfInBounds i true) w' → wpAny P .any ops Q (f + g) (L.setIfInBounds i true) ((fr ops (vals γ) (fun j => L.getD j false) ops.size a0).put o.dst (vals γ' i)) w' := fun γ' w' hag hC' => by
      have ih := head_anyE (g := g) (Q := Q) ht hn hstep hsink htail f γ' (L.setIfInBounds i true) w' (by simpa using hs) (closed_set hcl hi) (fun t h1 h2 => by rw [getD_set_ne true (by omega)]; exact htl t h1 h2)
        (by
          have h1 : cnt n (L.setIfInBounds i true) + 1 = cnt n L := by
            refine countP_one (i := i) (by simpa using hun) ?_ (fun j hj => by rw [getD_set_ne true (Ne.symm hj)]) List.nodup_range (List.mem_range.2 hin)
            simp [show i < L.size by omega]
          omega) hC'
      rw [fr_congr (l' := fun j => L.getD j false || j == i) fun j _ => ?_, fr_set ht (getD_both hun) hio, ← fr_vals fun j _ hj => hag j hj] at ih
      · unfold dstAt at ih; rw [ho] at ih; exact ih
      · by_cases e : j = i
        · subst e; simp [show j < L.size by omega]
        · have : (j == i) = false := by simpa using e
          rw [getD_set_ne false (Ne.symm e), this, Bool.or_false]
    unfold wpOp
    simp only [ho]
    rcases hst with ⟨hw, hg⟩ | ⟨hw, γ', hag, hv, hC'⟩
    · rw [hex2, if_pos hw]
      refine .inl (wp_of_givesE (R := fun v w' => ∃ γ', (∀ j, L.getD j false = true → vals γ j = vals γ' j) ∧ vals γ' i = v ∧ C γ' (L.setIfInBounds i true) w') ?_ fun v w' ⟨γ', hag, hv, hC'⟩ => by rw [← hv]; exact hnext γ' w' hag hC')
      unfold GivesE at hg ⊢
      rw [hex1]; exact hg
    · rw [hex2, hw, if_neg (by simp)]
      rw [← hv]
      exact hnext γ' w hag hC'

theorem region_coreE {id : Nat} {Q : Exit → Act → World → Prop} {Γ : Type} {C : Γ → Array Bool → World → Prop} {a : Act} {w : World} {l : List Oper} (n : Nat) (hm : P.follows .mixedOrders = true) (ht : tidy l.toArray = true) (hB : tailB l.toArray n = true)
    (γ0 : Γ) (hC : C γ0 (Array.replicate l.length false) w.drew) (vals : Γ → Nat → Value)
    (hs : ∀ i o, (l.take n)[i]? = some o → ∀ γ L w, L.size = l.length → i ∈ Region.ready .any l.toArray L → C γ L w →
      ((Region.wanted o (yielded l.toArray (lexF (l.take n) (vals γ) i a).tmps) = true ∧ GivesE P o (lexF (l.take n) (vals γ) i a) w (fun v w' => ∃ γ', (∀ j, L.getD j false = true → vals γ j = vals γ' j) ∧ vals γ' i = v ∧ C γ' (L.setIfInBounds i true) w')) ∨
      (Region.wanted o (yielded l.toArray (lexF (l.take n) (vals γ) i a).tmps) = false ∧ ∃ γ', (∀ j, L.getD j false = true → vals γ j = vals γ' j) ∧ vals γ' i = undef ∧ C γ' (L.setIfInBounds i true) w)))
    (hq : ∀ γ L w', (∀ i, i < n → L.getD i false = true) → C γ L w' → wpList P l.toArray Q (l.drop n) (lexF (l.take n) (vals γ) (l.take n).length a) w') : (Code.region id l.toArray true).wp P Q a w := by
  refine wp_region_any hm ?_
  have hn : n ≤ l.toArray.size := by
    simp only [tailB, Bool.or_eq_true, Bool.and_eq_true, decide_eq_true_eq] at hB
    rcases hB with h | h <;> omega
  have hlen : (l.take n).length = n := by rw [List.length_take]; simp at hn; omega
  simp only [hlen] at hq
  have hfr : ∀ (γ : Γ) i, i ≤ n → lexF (l.take n) (vals γ) i a = fr l.toArray (vals γ) (fun j => decide (j < i)) l.toArray.size a := fun γ i hi => by
    have := lexF_fr (ops := l.toArray) (vals := vals γ) (a := a) hn i hi
    simpa using this
  have H := head_anyE (P := P) (ops := l.toArray) (n := n) (g := l.toArray.size - n) (Q := Q) (vals := vals) (C := C) (a0 := a) ht hn
    (fun k o hk ho γ L w' hsz _ hr hC' => by
      have hko : (l.take n)[k]? = some o := by rw [List.getElem?_take_of_lt hk]; simpa using ho
      have := hs k o hko γ L w' (by simpa using hsz) hr hC'
      rwa [hfr γ k (by omega)] at this)
    (fun L hL hcl htl i hi hun t hr => by
      obtain ⟨hunt, o, ho, _⟩ := mem_ready.1 hr
      have hto : t < l.toArray.size := (Array.getElem?_eq_some_iff.1 ho).1
      simp only [tailB, Bool.or_eq_true, Bool.and_eq_true, decide_eq_true_eq] at hB
      rcases hB with hB | ⟨⟨⟨hB1, hB2⟩, hB3⟩, _⟩
      · omega
      · rcases Nat.lt_or_ge t n with h | h
        · exact h
        · exact absurd hr (tail_waits hB2 hB3 hB1 ⟨hL, hcl, htl⟩ _ i rfl hi hun t h))
    (fun γ L w' hL hall htl hC' => by
      rw [← hfr γ n (Nat.le_refl n)]
      have hlist := hq γ L w' hall hC'
      have hLe : L = tailL n (l.toArray.size - n) := by
        apply Array.ext_getElem?
        intro j
        unfold tailL
        rw [show ((List.replicate n true ++ List.replicate (l.toArray.size - n) false).toArray)[j]? = (List.replicate n true ++ List.replicate (l.toArray.size - n) false)[j]? from List.getElem?_toArray .., List.getElem?_append]
        simp only [List.length_replicate]
        by_cases hj : j < n
        · have := hall j hj
          rw [if_pos hj]
          simp [show j < L.size by omega] at this
          simp [hj, show j < L.size by omega, this]
        · rw [if_neg hj]
          by_cases hj2 : j < l.toArray.size
          · have := htl j (by omega) hj2
            simp [show j < L.size by omega] at this
            rw [Array.getElem?_eq_getElem (by omega), this, List.getElem?_replicate, if_pos (by omega)]
          · rw [Array.getElem?_eq_none (by omega), List.getElem?_replicate, if_neg (by omega)]
      simp only [tailB, Bool.or_eq_true, Bool.and_eq_true, decide_eq_true_eq] at hB
      rcases hB with hB | ⟨⟨⟨hB1, hB2⟩, hB3⟩, hB4⟩
      · rw [show l.toArray.size - n = 0 by omega]
        have hd : l.drop n = [] := List.drop_eq_nil_of_le (by simp at hB; omega)
        rw [hd] at hlist
        refine ⟨?_, hlist⟩
        apply List.eq_nil_iff_forall_not_mem.2
        intro t hr
        obtain ⟨hunt, o, ho, _⟩ := mem_ready.1 hr
        have hto : t < l.toArray.size := (Array.getElem?_eq_some_iff.1 ho).1
        have := hall t (by omega)
        rw [getD_both hunt] at this
        cases this
      · have hdl : (l.drop n).length = l.toArray.size - n := by simp
        have := wpAny_of_seq (P := P) (ops := l.toArray) (md := .any) (Q' := Q) (l.drop n) n L _ w' (fun j => by simp [List.getElem?_drop]) (by rw [hdl, hLe]; exact hB4) hlist
        rwa [hdl] at this)
    (cnt n (Array.replicate l.toArray.size false)) γ0 (Array.replicate l.toArray.size false) w.drew (by simp) (fun j o _ hl => by rw [getD_replicate_false] at hl; cases hl)
    (fun t _ hts => getD_in (by simpa using hts) (getD_replicate_false _ _)) rfl (by simpa using hC)
  have hc : cnt n (Array.replicate l.toArray.size false) = n := by
    unfold cnt
    have : ∀ i ∈ List.range n, (!(Array.replicate l.toArray.size false).getD i true) = true := fun i hi => by
      have hi' := List.mem_range.1 hi
      have : i < l.length := by simp at hn; omega
      simp [this]
    rw [List.countP_eq_length.2 this, List.length_range]
  rw [hc, show n + (l.toArray.size - n) = l.toArray.size by omega] at H
  have hz : fr l.toArray (vals γ0) (fun j => (Array.replicate l.toArray.size false).getD j false) l.toArray.size a = a := by
    rw [fr_congr (l' := fun j => decide (j < 0)) fun j _ => by rw [getD_replicate_false]; simp]
    have := fr_stop (ops := l.toArray) (vals := vals γ0) (k := 0) l.toArray.size a
    rw [Nat.zero_add] at this
    exact this
  rw [hz] at H
  exact H

/-- The operations in the order of the text, the k-th first. -/
def wpE (P : Program) (ops : Array Oper) (S : Nat → Value → Prop) (D : Nat → (Nat → Value) → World → Prop) (K : Nat → (Nat → Value) → World → World → Prop) (C : (Nat → Bool) → World → Prop) (Q : (Nat → Value) → Act → Prop) : Nat → (Nat → Value) → List Oper → Act → Prop
  | _, vs, [], a => Q vs a
  | k, vs, o :: rest, a => ((Region.wanted o (yielded ops a.tmps) = true ∧ ∀ d w, d k = false → C d w → (∀ j, Region.waitsFor .any ops k j = true → D j vs w) →
      GivesE P o a w fun v w' => S k v ∧ C (upB d k) w' ∧ K k vs w w' ∧ D k (updV vs k v) w') ∨
      (Region.wanted o (yielded ops a.tmps) = false ∧ S k undef ∧ (∀ d w, C d w → C (upB d k) w) ∧ ∀ w, D k (updV vs k undef) w)) ∧ (S k (vs k) → wpE P ops S D K C Q (k + 1) vs rest (a.put o.dst (vs k)))
theorem wpE_at {S : Nat → Value → Prop} {D : Nat → (Nat → Value) → World → Prop} {K : Nat → (Nat → Value) → World → World → Prop} {C : (Nat → Bool) → World → Prop} {Qk : (Nat → Value) → Act → Prop} {vs : Nat → Value} (hS : ∀ j, S j (vs j)) : ∀ (l : List Oper) (k : Nat) (a : Act), wpE P ops S D K C Qk k vs l a →
    Qk vs (lexF l (fun i => vs (k + i)) l.length a) ∧ ∀ i o, l[i]? = some o →
      ((Region.wanted o (yielded ops (lexF l (fun i => vs (k + i)) i a).tmps) = true ∧ ∀ d w, d (k + i) = false → C d w → (∀ j, Region.waitsFor .any ops (k + i) j = true → D j vs w) →
        GivesE P o (lexF l (fun i => vs (k + i)) i a) w fun v w' => S (k + i) v ∧ C (upB d (k + i)) w' ∧ K (k + i) vs w w' ∧ D (k + i) (updV vs (k + i) v) w') ∨
      (Region.wanted o (yielded ops (lexF l (fun i => vs (k + i)) i a).tmps) = false ∧ S (k + i) undef ∧ (∀ d w, C d w → C (upB d (k + i)) w) ∧ ∀ w, D (k + i) (updV vs (k + i) undef) w))
  | [], k, a, h => ⟨h, fun i o hi => by simp at hi⟩
  | o :: l, k, a, h => by
    obtain ⟨h1, h2⟩ := h
    obtain ⟨hq, hs⟩ := wpE_at hS l (k + 1) _ (h2 (hS k))
    have e : (fun i => vs (k + 1 + i)) = fun i => vs (k + (i + 1)) := funext fun i => by rw [show k + 1 + i = k + (i + 1) by omega]
    rw [e] at hq hs
    refine ⟨?_, fun i o' hi => ?_⟩
    · rw [List.length_cons, lexF_cons]; exact hq
    · cases i with
      | zero =>
        simp only [List.getElem?_cons_zero, Option.some.injEq] at hi
        subst hi
        exact h1
      | succ i =>
        rw [lexF_cons, show k + (i + 1) = k + 1 + i by omega]
        exact hs i o' (by simpa using hi)
theorem wp_region_ex {id : Nat} {Q : Exit → Act → World → Prop} {C : (Nat → Bool) → World → Prop} {S : Nat → Value → Prop} {D : Nat → (Nat → Value) → World → Prop} {K : Nat → (Nat → Value) → World → World → Prop} {a : Act} {w : World} {l : List Oper} (n : Nat)
    (hm : P.follows .mixedOrders = true) (ht : tidy l.toArray = true) (hB : tailB l.toArray n = true)
    (v0 : Nat → Value) (h0 : ∀ j, S j (v0 j)) (hD : ∀ i j vs w w', i < n → j ≠ i → Region.waitsFor .any l.toArray j i = false → D j vs w → K i vs w w' → D j vs w')
    (hL : ∀ j i vs v w, j ≠ i → Region.waitsFor .any l.toArray j i = false → D j vs w → D j (updV vs i v) w)
    (hC : C (fun _ => false) w.drew)
    (h : ∀ vs : Nat → Value, wpE P l.toArray S D K C (fun vs a' => ∀ d w', (∀ k, k < n → d k = true) → C d w' → (∀ k, k < n → D k vs w') → wpList P l.toArray Q (l.drop n) a' w') 0 vs (l.take n) a) : (Code.region id l.toArray true).wp P Q a w := by
  refine region_coreE (Γ := {vs : Nat → Value // ∀ j, S j (vs j)}) (C := fun γ L w' => C (fun j => L.getD j false) w' ∧ Closed l.toArray L ∧ ∀ k, k < n → L.getD k false = true → D k γ.1 w') n hm ht hB ⟨v0, h0⟩
    ⟨by rw [show (fun j => (Array.replicate l.length false).getD j false) = fun _ => false from funext fun j => getD_replicate_false _ j]; exact hC, (fun j o _ hl => by rw [getD_replicate_false] at hl; cases hl), fun k _ hk => by rw [getD_replicate_false] at hk; cases hk⟩ (fun γ => γ.1) ?_ ?_
  · intro i o hi γ L w' hsz hr ⟨hC', hcl, hDs⟩
    have hin : i < n := by
      have := (List.getElem?_eq_some_iff.1 hi).1
      rw [List.length_take] at this; omega
    have hun := getD_both (mem_ready.1 hr).1
    have hlt : i < L.size := by
      obtain ⟨o', ho', _⟩ := (mem_ready.1 hr).2
      have := (Array.getElem?_eq_some_iff.1 ho').1
      simp at this; omega
    have hup : (fun j => (L.setIfInBounds i true).getD j false) = upB (fun j => L.getD j false) i := funext fun j => by
      unfold upB
      by_cases e : j = i
      · subst e; rw [if_pos rfl]; simp [hlt]
      · rw [if_neg e, getD_set_ne false (Ne.symm e)]
    have hcl2 := closed_set hcl hr
    have key := (wpE_at γ.2 (l.take n) 0 a (h γ.1)).2 i o hi
    simp only [Nat.zero_add] at key
    have hwait : ∀ j, Region.waitsFor .any l.toArray i j = true → D j γ.1 w' := fun j hj => by
      have h1 := waits_ready hr hj
      have hji : j < i := by
        obtain ⟨o2, ho2, e2, he2, hb2, hon⟩ := Region.waitsFor_spec hj
        have := tidy_edge ht ho2 e2 he2 hb2
        omega
      exact hDs j (by omega) h1
    have step : ∀ (v : Value) (w2 : World), C (upB (fun j => L.getD j false) i) w2 → (w2 = w' ∨ K i γ.1 w' w2) → D i (updV γ.1 i v) w2 →
        C (fun j => (L.setIfInBounds i true).getD j false) w2 ∧ Closed l.toArray (L.setIfInBounds i true) ∧ ∀ k, k < n → (L.setIfInBounds i true).getD k false = true → D k (updV γ.1 i v) w2 := fun v w2 hc hb hd => by
      refine ⟨by rw [hup]; exact hc, hcl2, fun k hk hL' => ?_⟩
      by_cases e : k = i
      · subst e; exact hd
      · rw [getD_set_ne false (Ne.symm e)] at hL'
        have hw : Region.waitsFor .any l.toArray k i = false := by
          cases hx : Region.waitsFor .any l.toArray k i with
          | false => rfl
          | true =>
            have := waits_closed hcl hL' hx
            rw [hun] at this
            cases this
        refine hL k i _ v _ e hw ?_
        rcases hb with rfl | hb
        · exact hDs k hk hL'
        · exact hD i k _ _ _ hin e hw (hDs k hk hL') hb
    have upd : ∀ v, S i v → ∀ j, S j (updV γ.1 i v j) := fun v hv j => by
      by_cases e : j = i
      · subst e; rw [updV_self]; exact hv
      · rw [updV_ne _ _ e]; exact γ.2 j
    have keep : ∀ v j, L.getD j false = true → γ.1 j = updV γ.1 i v j := fun v j hj => by
      have : j ≠ i := fun e => by subst e; rw [hun] at hj; cases hj
      rw [updV_ne _ _ this]
    rcases key with ⟨k1, k2⟩ | ⟨k1, k2, k3, k4⟩
    · refine .inl ⟨k1, givesE_mono (k2 _ w' hun hC' hwait) fun v w2 ⟨h1, h2, h3, h4⟩ => ⟨⟨updV γ.1 i v, upd v h1⟩, keep v, updV_self _ _ _, step v w2 h2 (.inr h3) h4⟩⟩
    · exact .inr ⟨k1, ⟨updV γ.1 i undef, upd undef k2⟩, keep undef, updV_self _ _ _, step undef w' (k3 _ _ hC') (.inl rfl) (k4 w')⟩
  · intro γ L w' hall ⟨hC', _, hDs⟩
    have key := (wpE_at γ.2 (l.take n) 0 a (h γ.1)).1
    have ez : (fun i => γ.1 (0 + i)) = γ.1 := funext fun i => by rw [Nat.zero_add]
    rw [ez] at key
    exact key _ w' hall hC' fun k hk => hDs k hk (hall k hk)
end
end Go.Proofs.Ytkcfonlondlmeaa
namespace Go.Proofs.Ytkcfonlondlmeaa
open Go.ChangeShapes Go.WideShapes Go.ChangeAt Go.RowKit
open AesM (Bt ls Q16)
attribute [local go_sem] Gives GivesE
section
variable {a : Act} {w : World} {g h n m : Nat} {f f' : Nat → Nat} {T U : TypeId}
theorem run_ar_var {t : TypeId} (hT : ArT T n) (hb : Blk w g t (ar n f)) : (loadVar T ⟨g, 0, none⟩).run Try.prog w = .ok (.agg (ar n f)) w := by
  obtain ⟨d, h1, h2⟩ := hT.desc
  have := run_loadVar_mid (P := Try.prog) w g 0 T (ar n f).toList _ hb.head h1 h2 (hT.size.trans (by rw [Array.length_toList, size_ar]))
  rwa [Array.toArray_toList] at this
theorem ret_ar2 {t u : TypeId} {fn : Func} {R : Ending → World → Prop} {p q : Tmp} (hT : ArT T n) (hU : ArT U m) (hr : fn.results = #[.cell p T, .cell q U]) (hp : a.tmps.getD p undef = .pointer (some ⟨g, 0, none⟩)) (hq : a.tmps.getD q undef = .pointer (some ⟨h, 0, none⟩))
    (hdf : a.defers = []) (hb : Blk w g t (ar n f)) (hb' : Blk w h u (ar m f')) (hR : R (.returned (.tuple #[.agg (ar n f), .agg (ar m f')])) w) : bodyPost Try.prog fn R .ret a w := by
  refine bodyPost_ret ?_ hdf hR
  have hp' : a.tmps[p]?.getD undef = .pointer (some ⟨g, 0, none⟩) := by simpa using hp
  have hq' : a.tmps[q]?.getD undef = .pointer (some ⟨h, 0, none⟩) := by simpa using hq
  simp [results, hr, hp', hq', asAddr, run_ar_var hT hb, run_ar_var hU hb']
end
section
variable {ops : Array Oper} {a : Act} {rest : List Oper} {dst : Option Tmp} {ty : TypeId} {pos : String} {after : Array Edge} {x y : Operand} {g o n k : Nat} {f : Nat → Nat} {T : TypeId} {st : Nat → Bool} {D : (Nat → Bool) → World → Prop} {Qk : Act → Prop} {gd : Option (Nat × Bool)}
theorem mldA (hT : ArT T n) (hk : st k = false) (hwt : Region.wanted ⟨dst, .load T x, ty, pos, after, gd⟩ (yielded ops a.tmps) = true) (hx : a.eval x = .pointer (some ⟨g, o, none⟩)) (hb : ∀ d w, D d w → w.rangeAt g o (ar n f).toList) (h : wpM Try.prog ops st D Qk (k + 1) rest (a.put dst (.agg (ar n f)))) :
    wpM Try.prog ops st D Qk k (⟨dst, .load T x, ty, pos, after, gd⟩ :: rest) a :=
  wpM_val hk hwt (fun d w hw => gives_value (w' := w) (by simp only [execOp, hx, Sem.run_bind, run_ldm hT (hb d w hw), Result.andThen_ok, Sem.run_pure]) hw) h
theorem mstA {t : TypeId} (hT : ArT T n) (hk : st k = true) (hwt : Region.wanted ⟨dst, .store T x y, ty, pos, after, gd⟩ (yielded ops a.tmps) = true) (hx : a.eval x = .pointer (some ⟨g, 0, none⟩)) (hy : a.eval y = .agg (ar n f))
    (hb : ∀ d w, d k = false → D d w → ∃ f0, Blk w g t (ar n f0)) (hD : ∀ d w, d k = false → D d w → D (upB d k) (w.setRow g (ar n f))) (h : wpM Try.prog ops st D Qk (k + 1) rest (a.put dst undef)) :
    wpM Try.prog ops st D Qk k (⟨dst, .store T x y, ty, pos, after, gd⟩ :: rest) a :=
  wpM_put hk hwt (fun d w hd hw => gives_skip (w' := w.setRow g (ar n f)) (by
    obtain ⟨f0, hb0⟩ := hb d w hd hw
    have := run_storeVar_row (P := Try.prog) w g t T (ar n f0) (ar n f) hb0 (hT.size.trans (by rw [size_ar])) (by rw [size_ar, size_ar]) ar_one
    simp only [execOp, hx, hy, Instr.storeAt, Instr.sureAddr, Sem.run_bind, this, Result.andThen_ok, Sem.run_pure]) (hD d w hd hw)) h
end
section
variable {a : Act} {w : World} {dst : Option Tmp} {ty : TypeId} {pos : String} {after : Array Edge} {x : Operand} {g o n : Nat} {f : Nat → Nat} {T : TypeId} {gd : Option (Nat × Bool)} {R : Value → World → Prop}
theorem gE_load (hT : ArT T n) (hx : a.eval x = .pointer (some ⟨g, o, none⟩)) (hb : w.rangeAt g o (ar n f).toList) (hR : R (.agg (ar n f)) w) : GivesE Try.prog ⟨dst, .load T x, ty, pos, after, gd⟩ a w R := by
  unfold GivesE
  simp only [execOp, hx, Sem.run_bind, run_ldm hT hb, Result.andThen_ok, Sem.run_pure]
  exact hR
end
theorem eqg_bk : Try.prog.eqGuardType Try.prog.depth 35 = false := by kernel_rfl
theorem uBk : Try.prog.underlying 35 = some (.array 16 5) := Try.underlying35
section
variable {ops : Array Oper} {a : Act} {w : World} {rest : List Oper} {dst : Option Tmp} {ty r : TypeId} {pos : String} {after : Array Edge} {x y : Operand} {f g : Nat → Nat} {gd : Option (Nat × Bool)} {R : Value → World → Prop} {C : World → Prop} {Qk : Act → Prop}
theorem exec_eqA (hx : a.eval x = .agg (ar 16 f)) (hy : a.eval y = .agg (ar 16 g)) : (execOp a.eval ⟨dst, .binOp .eql 35 x y r, ty, pos, after, gd⟩).run Try.prog w = .ok (.value (.bool (eqA 16 f g))) w := by
  have h1 : (eqGuard .eql 35 x y (.agg (ar 16 f)) (.agg (ar 16 g))).run Try.prog w = .ok () w := by
    simp [eqGuard, eqg_bk, go_sem]
  simp only [execOp, hx, hy, Sem.run_bind, h1, run_eql_ar uBk, Result.andThen_ok, Sem.run_pure]
theorem gE_eql (hx : a.eval x = .agg (ar 16 f)) (hy : a.eval y = .agg (ar 16 g)) (hR : R (.bool (eqA 16 f g)) w) : GivesE Try.prog ⟨dst, .binOp .eql 35 x y r, ty, pos, after, gd⟩ a w R := by
  unfold GivesE
  rw [exec_eqA hx hy]
  exact hR
theorem keqA (b : Bool) (hwt : Region.wanted ⟨dst, .binOp .eql 35 x y r, ty, pos, after, gd⟩ (yielded ops a.tmps) = true) (hx : a.eval x = .agg (ar 16 f)) (hy : a.eval y = .agg (ar 16 g)) (hb : eqA 16 f g = b)
    (h : wpK Try.prog ops C Qk rest (a.put dst (.bool b))) : wpK Try.prog ops C Qk (⟨dst, .binOp .eql 35 x y r, ty, pos, after, gd⟩ :: rest) a :=
  wpK_val hwt (fun w hw => gives_value (w' := w) (by rw [exec_eqA hx hy, hb]) hw) h
theorem gE_build {parts : Array (Nat × Operand)} {T : TypeId} {cs : Array Value} (hb : (Instr.build T (parts.map fun (i, x) => (i, a.eval x))).run Try.prog w = .ok (.agg cs) w) (hR : R (.agg cs) w) : GivesE Try.prog ⟨dst, .build T parts, ty, pos, after, gd⟩ a w R := by
  unfold GivesE
  simp only [execOp, Sem.run_bind, hb, Result.andThen_ok, Sem.run_pure]
  exact hR
set_option maxRecDepth 100000 in
theorem kbldA {parts : Array (Nat × Operand)} {T : TypeId} {cs : Array Value} (hwt : Region.wanted ⟨dst, .build T parts, ty, pos, after, gd⟩ (yielded ops a.tmps) = true) (hb : ∀ w, (Instr.build T (parts.map fun (i, x) => (i, a.eval x))).run Try.prog w = .ok (.agg cs) w)
    (h : wpK Try.prog ops C Qk rest (a.put dst (.agg cs))) : wpK Try.prog ops C Qk (⟨dst, .build T parts, ty, pos, after, gd⟩ :: rest) a :=
  wpK_val hwt (fun w hw => gives_value (w' := w) (by simp only [execOp, Sem.run_bind, hb, Result.andThen_ok, Sem.run_pure]) hw) h
end
namespace AesP
/-- What the operations' values are like: told (some), or a pointer (none). -/
def nS (fx : List (Option Value)) (j : Nat) (v : Value) : Prop := match fx[j]? with
  | some (some u) => v = u
  | some none => ∃ g : Nat, v = .pointer (some ⟨g, 0, none⟩)
  | none => True
def nV (fx : List (Option Value)) (j : Nat) : Value := match fx[j]? with
  | some (some u) => u
  | some none => .pointer (some ⟨0, 0, none⟩)
  | none => undef
theorem nS_ok (fx : List (Option Value)) (j : Nat) : nS fx j (nV fx j) := by
  unfold nS nV
  cases fx[j]? with
  | none => trivial
  | some o => cases o with
    | none => exact ⟨0, rfl⟩
    | some u => rfl
/-- The operations of js yield ciphers of the key. -/
def nD (js : List Nat) (B : Nat) (K : Nat → Nat) (j : Nat) (vs : Nat → Value) (w : World) : Prop := js.contains j = true → ∃ g : Nat, vs j = .pointer (some ⟨g, 0, none⟩) ∧ Cip w g K false ∧ B ≤ g
theorem nD_below {js : List Nat} {B : Nat} {K : Nat → Nat} {j : Nat} {vs : Nat → Value} {w w' : World} (h : nD js B K j vs w) (hb : Below w.heap.size w w') : nD js B K j vs w' := fun e => by
  obtain ⟨g, h1, h2, h3⟩ := h e
  exact ⟨g, h1, Blk.below h2 hb (cip_lt h2), h3⟩
theorem nD_loc {js : List Nat} {B : Nat} {K : Nat → Nat} {i j : Nat} {vs : Nat → Value} {v : Value} {w : World} (hji : j ≠ i) (h : nD js B K j vs w) : nD js B K j (updV vs i v) w := by
  unfold nD at h ⊢
  rw [updV_ne _ _ hji]
  exact h
theorem nD_none {js : List Nat} {B : Nat} {K : Nat → Nat} {j : Nat} {vs : Nat → Value} {w : World} (h : js.contains j = false) : nD js B K j vs w := fun e => by rw [h] at e; cases e
theorem eql_yes {f g : Nat → Nat} (h : Q16 f g) (w : World) : (binOp .eql 35 (.agg (ar 16 f)) (.agg (ar 16 g))).run Try.prog w = .ok (.bool true) w := by
  rw [run_eql_ar uBk, eqA_yes h]
theorem exK_bt : Bt (ls AesM.exK) := fun i => by
  unfold ls
  have h : ∀ x ∈ AesM.exK, x < 256 := by decide
  rw [List.getD_eq_getElem?_getD]
  rcases Nat.lt_or_ge i AesM.exK.length with ha | ha
  · rw [List.getElem?_eq_getElem ha]; exact h _ (List.getElem_mem ha)
  · rw [List.getElem?_eq_none ha]; decide
theorem exB_bt : Bt (ls AesM.exB) := fun i => by
  unfold ls
  have h : ∀ x ∈ AesM.exB, x < 256 := by decide
  rw [List.getD_eq_getElem?_getD]
  rcases Nat.lt_or_ge i AesM.exB.length with ha | ha
  · rw [List.getElem?_eq_getElem ha]; exact h _ (List.getElem_mem ha)
  · rw [List.getElem?_eq_none ha]; decide
end AesP
end Go.Proofs.Ytkcfonlondlmeaa
namespace Go.Proofs.Ytkcfonlondlmeaa
open Go.ChangeShapes Go.WideShapes Go.ChangeAt Go.RowKit
open AesM (Bt Q16)
open AesP (tBk wr_nat Cip cip_lt seal_any cipC cip)
section
variable {ops : Array Oper} {a : Act} {w : World} {rest : List Oper} {dst : Option Tmp} {ty r : TypeId} {pos : String} {after : Array Edge} {x y : Operand} {f g : Nat → Nat} {gd : Option (Nat × Bool)} {R : Value → World → Prop} {C : World → Prop} {Qk : Act → Prop} {T : TypeId} {n : Nat}
theorem exec_eqT (hT : Try.prog.underlying T = some (.array n 5)) (hg : Try.prog.eqGuardType Try.prog.depth T = false) (hx : a.eval x = .agg (ar n f)) (hy : a.eval y = .agg (ar n g)) : (execOp a.eval ⟨dst, .binOp .eql T x y r, ty, pos, after, gd⟩).run Try.prog w = .ok (.value (.bool (eqA n f g))) w := by
  have h1 : (eqGuard .eql T x y (.agg (ar n f)) (.agg (ar n g))).run Try.prog w = .ok () w := by
    simp [eqGuard, hg, go_sem]
  simp only [execOp, hx, hy, Sem.run_bind, h1, run_eql_ar hT, Result.andThen_ok, Sem.run_pure]
theorem exec_neT (hT : Try.prog.underlying T = some (.array n 5)) (hg : Try.prog.eqGuardType Try.prog.depth T = false) (hx : a.eval x = .agg (ar n f)) (hy : a.eval y = .agg (ar n g)) : (execOp a.eval ⟨dst, .binOp .neq T x y r, ty, pos, after, gd⟩).run Try.prog w = .ok (.value (.bool (!eqA n f g))) w := by
  have h1 : (eqGuard .neq T x y (.agg (ar n f)) (.agg (ar n g))).run Try.prog w = .ok () w := by
    simp [eqGuard, hg, go_sem]
  simp only [execOp, hx, hy, Sem.run_bind, h1, run_neq_ar hT, Result.andThen_ok, Sem.run_pure]
theorem keqT (b : Bool) (hT : Try.prog.underlying T = some (.array n 5)) (hg : Try.prog.eqGuardType Try.prog.depth T = false) (hwt : Region.wanted ⟨dst, .binOp .eql T x y r, ty, pos, after, gd⟩ (yielded ops a.tmps) = true) (hx : a.eval x = .agg (ar n f)) (hy : a.eval y = .agg (ar n g)) (hb : eqA n f g = b)
    (h : wpK Try.prog ops C Qk rest (a.put dst (.bool b))) : wpK Try.prog ops C Qk (⟨dst, .binOp .eql T x y r, ty, pos, after, gd⟩ :: rest) a :=
  wpK_val hwt (fun w hw => gives_value (w' := w) (by rw [exec_eqT hT hg hx hy, hb]) hw) h
theorem kneT (b : Bool) (hT : Try.prog.underlying T = some (.array n 5)) (hg : Try.prog.eqGuardType Try.prog.depth T = false) (hwt : Region.wanted ⟨dst, .binOp .neq T x y r, ty, pos, after, gd⟩ (yielded ops a.tmps) = true) (hx : a.eval x = .agg (ar n f)) (hy : a.eval y = .agg (ar n g)) (hb : (!eqA n f g) = b)
    (h : wpK Try.prog ops C Qk rest (a.put dst (.bool b))) : wpK Try.prog ops C Qk (⟨dst, .binOp .neq T x y r, ty, pos, after, gd⟩ :: rest) a :=
  wpK_val hwt (fun w hw => gives_value (w' := w) (by rw [exec_neT hT hg hx hy, hb]) hw) h
end
namespace XtP
attribute [local go_sem] Gives
theorem tSec : ArT 28 64 := ⟨by kernel_rfl, ⟨_, Try.underlying28, rfl⟩, (zero_of_info (P := Try.prog) (t := 28) (v := .agg (ar 64 fun _ => 0)) (n := 64) (by kernel_rfl)).1⟩
theorem uSec : Try.prog.underlying 28 = some (.array 64 5) := Try.underlying28
theorem eqg_sec : Try.prog.eqGuardType Try.prog.depth 28 = false := by kernel_rfl
def pt (c : Nat) : Value := .pointer (some ⟨c, 0, none⟩)
/-- A mode in memory: its two ciphers. -/
def Md (w : World) (g c d : Nat) : Prop := Blk w g 41 #[pt c, pt d]
section
variable {w w' : World} {g c d : Nat} {K L : Nat → Nat} {b b' : Bool}
theorem Md.lt (h : Md w g c d) : g < w.heap.size := Blk.lt h
theorem Md.data (h : Md w g c d) : w.cell? ⟨g, 0, none⟩ = some (pt c) := Blk.cell h 0
theorem Md.tweak (h : Md w g c d) : w.cell? ⟨g, 1, none⟩ = some (pt d) := Blk.cell h 1
theorem Md.ne (h : Md w g c d) {k : Nat} (hk : Cip w k K b) : k ≠ g := fun e => by
  subst e
  have := congrArg Array.size (Blk.inj h hk)
  simp [cip, size_row] at this
/-- Two readings of one cipher tell of the same round keys. -/
theorem cip_same {b2 : Bool} (h : Cip w c K b) (h' : Cip w c L b') (h2 : Cip w' c K b2) : Cip w' c L b2 := by
  have e := row_inj (Blk.inj h h')
  unfold Cip at h2 ⊢
  rw [show cip true L AesM.boxF (if b2 = true then AesM.oboxF else fun _ => 0) (if b2 = true then 1 else 0) = cip true K AesM.boxF (if b2 = true then AesM.oboxF else fun _ => 0) (if b2 = true then 1 else 0) from row_ext fun j hj => ?_]
  · exact h2
  · have ej := e j hj
    unfold cipC at ej ⊢
    by_cases h0 : j = 0
    · rw [if_pos h0, if_pos h0]
    · rw [if_neg h0, if_neg h0]
      by_cases h1 : j < 241
      · rw [if_neg h0, if_neg h0, if_pos h1, if_pos h1] at ej
        rw [if_pos h1, if_pos h1]
        exact ej.symm
      · rw [if_neg h1, if_neg h1]
/-- The other cipher behind a change of this one. -/
theorem cip_keep (hc : ∃ b, Cip w c K b) (hd : ∃ b, Cip w d L b) (h2 : ∃ b, Cip w' c K b) (ho : w.grownBy w' (some c)) : ∃ b, Cip w' d L b := by
  obtain ⟨b, hc⟩ := hc
  obtain ⟨b', hd⟩ := hd
  obtain ⟨b2, h2⟩ := h2
  by_cases e : d = c
  · subst e
    exact ⟨b2, cip_same hc hd h2⟩
  · exact ⟨b', Blk.only hd ho e⟩
end
set_option maxRecDepth 100000 in
theorem made_any (g c d : Nat) (w : World) (hm : Md w g c d) :
    Calls Try.prog 14 #[.pointer (some ⟨g, 0, none⟩)] w fun e w' => e = .returned (.bool true) ∧ w = w' := by
  have h0 := hm.data
  unfold pt at h0
  go_enter Try.func14, Try.ntmps14
  go_wp2_with fail
  go_ret
  exact ⟨rfl, rfl⟩
set_option maxRecDepth 100000 in
theorem made_nil (w : World) :
    Calls Try.prog 14 #[.pointer none] w fun e w' => e = .returned (.bool false) ∧ w = w' := by
  go_enter Try.func14, Try.ntmps14
  go_wp2_with fail
  go_ret
  exact ⟨rfl, rfl⟩
/-- A mode that New did not make. -/
def Emp (w : World) (g : Nat) : Prop := Blk w g 41 #[.pointer none, .pointer none]
set_option maxRecDepth 100000 in
theorem made_emp (g : Nat) (w : World) (hm : Emp w g) :
    Calls Try.prog 14 #[.pointer (some ⟨g, 0, none⟩)] w fun e w' => e = .returned (.bool false) ∧ w = w' := by
  have h0 : w.cell? ⟨g, 0, none⟩ = some (.pointer none) := Blk.cell hm 0
  go_enter Try.func14, Try.ntmps14
  go_wp2_with fail
  go_ret
  exact ⟨rfl, rfl⟩
set_option maxHeartbeats 400000 in
set_option maxRecDepth 100000 in
theorem first_any (K : Nat → Nat) (hK : Bt K) (n : Nat) (hn : n < 18446744073709551616) (g c d : Nat) (b : Bool) (w : World) (hm : Md w g c d) (hd : Cip w d K b) :
    Calls Try.prog 16 #[.pointer (some ⟨g, 0, none⟩), .int .u64 n] w fun e w' => e = .returned (.agg (ar 16 (AesM.sealM K (XtM.tw n)))) ∧ Below w.heap.size w w' := by
  have HK := hid hK
  have HM := hid hm
  have HD := hid hd
  have hgl := hm.lt
  have hdl := cip_lt hd
  clear hK hm hd
  go_enter Try.func16, Try.ntmps16
  go_upto_region 2 with (with_reducible apply alA tBk)
  generalize hw3 : World.alloc (World.alloc w _) _ = w3
  have b1 : Blk w3 w.heap.size 35 (ar 16 fun _ => 0) := by rw [← hw3]; exact (Blk.new _ _ _).alloc _
  have b2 : Blk w3 (w.heap.size + 1) 35 (ar 16 fun _ => 0) := by rw [← hw3]; exact Blk.top rfl (by simp)
  have hb : Below w.heap.size w w3 := by rw [← hw3]; exact ((Below.refl _ _).alloc (Nat.le_refl _) _).alloc (by simp) _
  clear hw3
  go_wp2_with fail
  go_loopw [1, 7] (fun m i wr => ∃ k : Nat, k ≤ 16 ∧ i = .int .i64 k ∧ m = .int .u64 (n / 256 ^ k : Nat) ∧ Blk wr w.heap.size 35 (ar 16 fun _ => 0) ∧ Blk wr (w.heap.size + 1) 35 (ar 16 (upTo k (fun _ => 0) (XtM.tw n))) ∧ Below w.heap.size w wr) (fun _ i _ => 16 - (intOf i).toNat)
  case atStart => exact ⟨0, by omega, rfl, by rw [Nat.pow_zero, Nat.div_one], b1, by rw [upTo_zero]; exact b2, hb⟩
  case round =>
    clear b1 b2 hb
    obtain ⟨k, hk, rfl, rfl, b1, b2, hb⟩ := hrel
    obtain ⟨p, hp⟩ : ∃ p, p = n / 256 ^ k := ⟨_, rfl⟩
    have hpl : p ≤ n := by rw [hp]; exact Nat.div_le_self _ _
    rw [← hp]
    have H8 : IntKind.u8.wrap (p : Int) = ((XtM.tw n k : Nat) : Int) := by rw [IntKind.wrap_u8]; unfold XtM.tw; rw [← hp]; omega
    have HS := hid (show (p : Int) / 256 = ((n / 256 ^ (k + 1) : Nat) : Int) by rw [Nat.pow_succ, ← Nat.div_div_eq_div_mul, ← hp]; omega)
    clear hp
    by_cases hlt : k < 16
    · have tk : (k : Int) < 16 := by omega
      have c3 := b2.frozen k
      have e3 := (b2.cell k).trans (get_ar hlt)
      go_wp2_with fail
      go_roundw
      case rel => exact ⟨k + 1, by omega, by go_num, by rw [HS.out], b1.setCell_other (by simp) _, upTo_step (b2.setCell_same k _), hb.setCell (by simp) _⟩
      case measure => simp [intOf]; omega
    · have tk : decide ((k : Int) < 16) = false := by simp; omega
      obtain rfl : k = 16 := by omega
      rw [upTo_all (by omega)] at b2
      go_wp2_with fail
      have B1 := hid b1
      have B2 := hid b2
      have HB := hid hb
      have M1 := hid (show Md wr g c d from Blk.below HM.out hb hgl)
      have D1 := hid (show Cip wr d K b from Blk.below HD.out hb hdl)
      clear b1 b2 hb HM HD
      refine wp_region_tail (C := fun w' => Below wr.heap.size wr w') 6 (by kernel_rfl) (by kernel_rfl) (by kernel_rfl) (Below.refl _ _).drew ?_
      simp only [List.take_succ_cons, List.take_zero, List.drop_succ_cons, List.drop_zero]
      apply wpK_val
      · rfl
      · intro w' hw'
        go_simp
        first | exact rfl | exact ⟨rfl, hw'⟩
      simp only [Act.put, List.setIfInBounds_toArray, List.set_cons_succ, List.set_cons_zero]
      apply wpK_val
      · rfl
      · intro w' hw'
        go_simp
        first | exact rfl | exact ⟨rfl, hw'⟩
      simp only [Act.put, List.setIfInBounds_toArray, List.set_cons_succ, List.set_cons_zero]
      apply wpK_val
      · rfl
      · intro w' hw'
        go_simp
        first | exact rfl | exact ⟨rfl, hw'⟩
      simp only [Act.put, List.setIfInBounds_toArray, List.set_cons_succ, List.set_cons_zero]
      apply wpK_val
      · rfl
      · intro w' hw'
        have hcell := (show Md w' g c d from Blk.below M1.out hw' M1.out.lt).tweak
        go_simp
        first | exact rfl | exact ⟨rfl, hw'⟩
      simp only [Act.put, List.setIfInBounds_toArray, List.set_cons_succ, List.set_cons_zero]
      apply kldA tBk
      · rfl
      · rfl
      · exact fun w' hw' => (B2.out.below hw' B2.out.lt).head
      simp only [Act.put, List.setIfInBounds_toArray, List.set_cons_succ, List.set_cons_zero]
      apply wpK_val
      · rfl
      · intro w' hw'
        go_simp
        exact (seal_any K (XtM.tw n) b HK.out (XtM.tw_bt n) d w' (Blk.below D1.out hw' (cip_lt D1.out))).mono fun e w2 h => ⟨h.1, hw'.trans (h.2.mono hw'.size)⟩
      simp only [Act.put, List.setIfInBounds_toArray, List.set_cons_succ, List.set_cons_zero]
      refine wpK_nil fun w5 hw5 => ?_
      have x1 := B1.out.below hw5 B1.out.lt
      have xb := HB.out.trans (hw5.mono HB.out.size)
      clear B1 B2 HB M1 D1 hw5
      go_wp2_with ((with_reducible apply stA tBk); rfl; rfl; exact x1)
      apply ret_ar tBk Try.results16
      · rfl
      · rfl
      · exact x1.setRow_same _
      exact ⟨rfl, below_setRow xb (by omega) _⟩
end XtP
end Go.Proofs.Ytkcfonlondlmeaa
namespace Go.Proofs.Ytkcfonlondlmeaa
namespace AesM
def bitN (a i : Nat) : Nat := a / 2 ^ i % 2
/-- The sum of a's multiples. -/
def inn : Nat → Nat → Nat → Nat → Nat → Nat
  | 0, _, _, _, n => n
  | f + 1, a, b, i, n => inn f a b (i + 1) (if bitN b i = 1 then n ^^^ a * 2 ^ i else n)
def red : Nat → Nat → Nat
  | 0, n => n
  | f + 1, n => red f (if bitN n (8 + f) = 1 then n ^^^ 283 * 2 ^ f else n)
def rm (a b : Nat) : Nat := red 7 (inn 8 a b 0 0) % 256
theorem rm_lt (a b : Nat) : rm a b < 256 := Nat.mod_lt _ (by omega)
/-- f rounds of the inverse. -/
def rinvGo : Nat → Nat → Nat → Nat
  | 0, _, x => x
  | f + 1, a, x => rinvGo f (rm a a) (rm x (rm a a))
def rinv (a : Nat) : Nat := rinvGo 7 a 1
theorem rinvGo_lt : ∀ f a x, x < 256 → rinvGo f a x < 256
  | 0, _, _, h => h
  | f + 1, _, _, _ => rinvGo_lt f _ _ (rm_lt _ _)
def xb (b i : Nat) : Nat := bitN b (i % 8) ^^^ bitN b ((i + 4) % 8) ^^^ bitN b ((i + 5) % 8) ^^^ bitN b ((i + 6) % 8) ^^^ bitN b ((i + 7) % 8) ^^^ bitN 99 (i % 8)
def bxGo (b : Nat) : Nat → Nat
  | 0 => 0
  | i + 1 => bxGo b i ||| (xb b i * 2 ^ i % 256)
theorem bitN_lt (a i : Nat) : bitN a i < 256 := by unfold bitN; omega
theorem xb_lt (b i : Nat) : xb b i < 256 := xor_lt (xor_lt (xor_lt (xor_lt (xor_lt (bitN_lt _ _) (bitN_lt _ _)) (bitN_lt _ _)) (bitN_lt _ _)) (bitN_lt _ _)) (bitN_lt _ _)
theorem bxGo_lt (b : Nat) : ∀ i, bxGo b i < 256
  | 0 => Nat.zero_lt_succ _
  | i + 1 => Nat.or_lt_two_pow (n := 8) (bxGo_lt b i) (Nat.mod_lt _ (by omega))
theorem rbox_eq : ∀ a, a < 256 → bxGo (rinv a) 8 = boxF a := by
  rw [boxF_lit]; unfold ls; decide +kernel
theorem rm_one : ∀ a, a < 256 → rm a 1 = a := by decide +kernel
theorem rm_two : ∀ a, a < 256 → rm a 2 = dbl a := by decide +kernel
theorem rm_three : ∀ a, a < 256 → rm a 3 = dbl a ^^^ a := by decide +kernel
theorem rm_9 : ∀ a, a < 256 → rm a 9 = dbl (dbl (dbl a)) ^^^ a := by decide +kernel
theorem rm_11 : ∀ a, a < 256 → rm a 11 = dbl (dbl (dbl a)) ^^^ dbl a ^^^ a := by decide +kernel
theorem rm_13 : ∀ a, a < 256 → rm a 13 = dbl (dbl (dbl a)) ^^^ dbl (dbl a) ^^^ a := by decide +kernel
theorem rm_14 : ∀ a, a < 256 → rm a 14 = dbl (dbl (dbl a)) ^^^ dbl (dbl a) ^^^ dbl a := by decide +kernel
theorem rm_pow : ∀ i, i < 7 → rm (2 ^ i) 2 = 2 ^ (i + 1) := by decide +kernel
end AesM
end Go.Proofs.Ytkcfonlondlmeaa
namespace Go.Proofs.Ytkcfonlondlmeaa
open Go.ChangeShapes Go.WideShapes Go.ChangeAt Go.RowKit
open AesM (Bt bitN)
namespace AesP
theorem u8_bit (b k : Nat) (hb : b < 256) : bits BinOp.and IntKind.u8 ((b : Int) / 2 ^ k) 1 = ((b / 2 ^ k % 2 : Nat) : Int) := by
  have h1 : ((b : Int) / 2 ^ k) = ((b / 2 ^ k : Nat) : Int) := by norm_cast
  rw [h1, show (1 : Int) = ((1 : Nat) : Int) from rfl, u8_and_nat _ _ (Nat.lt_of_le_of_lt (Nat.div_le_self _ _) hb) (by omega), Nat.and_one_is_mod]
theorem i64_and_nat (a b : Nat) (ha : a < 9223372036854775808) (hb : b < 9223372036854775808) : bits .and .i64 (a : Int) (b : Int) = ((a &&& b : Nat) : Int) := by
  have hx : a &&& b < 2 ^ 63 := Nat.and_lt_two_pow _ (by omega)
  have h1 : (BitVec.ofInt 64 (a : Int)).toNat = a := by rw [BitVec.ofInt_natCast, BitVec.toNat_ofNat]; exact Nat.mod_eq_of_lt (by omega)
  have h2 : (BitVec.ofInt 64 (b : Int)).toNat = b := by rw [BitVec.ofInt_natCast, BitVec.toNat_ofNat]; exact Nat.mod_eq_of_lt (by omega)
  show IntKind.i64.wrap ((BitVec.ofInt 64 (a : Int) &&& BitVec.ofInt 64 (b : Int)).toNat : Int) = _
  rw [BitVec.toNat_and, h1, h2]
  exact IntWalk.i64_in _ (by omega)
theorem i64_xor_nat (a b : Nat) (ha : a < 9223372036854775808) (hb : b < 9223372036854775808) : bits .xor .i64 (a : Int) (b : Int) = ((a ^^^ b : Nat) : Int) := by
  have hx : a ^^^ b < 2 ^ 63 := Nat.xor_lt_two_pow (by omega) (by omega)
  have h1 : (BitVec.ofInt 64 (a : Int)).toNat = a := by rw [BitVec.ofInt_natCast, BitVec.toNat_ofNat]; exact Nat.mod_eq_of_lt (by omega)
  have h2 : (BitVec.ofInt 64 (b : Int)).toNat = b := by rw [BitVec.ofInt_natCast, BitVec.toNat_ofNat]; exact Nat.mod_eq_of_lt (by omega)
  show IntKind.i64.wrap ((BitVec.ofInt 64 (a : Int) ^^^ BitVec.ofInt 64 (b : Int)).toNat : Int) = _
  rw [BitVec.toNat_xor, h1, h2]
  exact IntWalk.i64_in _ (by omega)
theorem i64_bit (b k : Nat) (hb : b < 9223372036854775808) : bits BinOp.and IntKind.i64 ((b : Int) / 2 ^ k) 1 = ((b / 2 ^ k % 2 : Nat) : Int) := by
  have h1 : ((b : Int) / 2 ^ k) = ((b / 2 ^ k : Nat) : Int) := by norm_cast
  rw [h1, show (1 : Int) = ((1 : Nat) : Int) from rfl, i64_and_nat _ _ (Nat.lt_of_le_of_lt (Nat.div_le_self _ _) hb) (by omega), Nat.and_one_is_mod]
theorem bit_yes {x : Int} {n : Nat} (e : x = (n : Int)) (h : n = 1) : (x == 1) = true := by rw [e, h]; rfl
theorem bit_no {x : Int} {n : Nat} (e : x = ((n % 2 : Nat) : Int)) (h : ¬ n % 2 = 1) : (x == 1) = false := by rw [e, beq_eq_false_iff_ne]; omega
theorem nat64 {x : Int} {n : Nat} (e : x = (n : Int)) (h : n < 131072) : wrap64 x = (n : Int) := by
  rw [e]; exact IntWalk.wrap64_in _ ⟨by omega, by omega⟩
theorem pow2_le {e d : Nat} (h : e ≤ d) : 2 ^ e ≤ 2 ^ d := Nat.pow_le_pow_right (by omega) h
theorem xor15 {m c : Nat} (hm : m < 32768) (hc : c < 32768) : m ^^^ c < 32768 := Nat.xor_lt_two_pow (n := 15) hm hc
theorem inn_step {a b i n r : Nat} (hi : i < 8) (H : AesM.inn (8 - i) a b i n = r) : AesM.inn (8 - (i + 1)) a b (i + 1) (if bitN b i = 1 then n ^^^ a * 2 ^ i else n) = r := by
  rw [show 8 - i = (8 - (i + 1)) + 1 from by omega, AesM.inn] at H; exact H
theorem red_step {i m r : Nat} (h7 : 7 < i) (H : AesM.red (i - 7) m = r) : AesM.red (i - 1 - 7) (if bitN m i = 1 then m ^^^ 283 * 2 ^ (i - 8) else m) = r := by
  rw [show i - 7 = (i - 8) + 1 from by omega, AesM.red] at H
  rw [show 8 + (i - 8) = i from by omega] at H
  rw [show i - 1 - 7 = i - 8 from by omega]; exact H
theorem shl64 (a e : Nat) (ha : a < 512) (h : e ≤ 7) : wrap64 ((a : Int) * 2 ^ e) = ((a * 2 ^ e : Nat) : Int) := by
  have h2 := pow2_le h
  have h3 : a * 2 ^ e ≤ 512 * 2 ^ 7 := Nat.mul_le_mul (by omega) h2
  exact nat64 (by norm_cast) (by omega)
theorem ret_int {k : IntKind} {a b : Int} (h : a = b) : Ending.returned (.int k a) = .returned (.int k b) := by rw [h]
theorem rmul_any (a b : Nat) (ha : a < 256) (hb : b < 256) (w : World) :
    Calls Try.prog 46 #[.int .u8 a, .int .u8 b] w fun e w' => e = .returned (.int .u8 (AesM.rm a b : Nat)) ∧ w = w' := by
  go_enter Try.func46, Try.ntmps46
  go_wp2_with fail
  go_loop [5, 6] (fun s i => ∃ i' n : Nat, i' ≤ 8 ∧ n < 32768 ∧ s = .int .i64 n ∧ i = .int .i64 i' ∧ Hid (AesM.inn (8 - i') a b i' n = AesM.inn 8 a b 0 0)) (fun _ i => 8 - (intOf i).toNat)
  case atStart => exact ⟨0, 0, by omega, by omega, rfl, rfl, rfl⟩
  case round =>
    obtain ⟨i, n, hi, hn, rfl, rfl, H⟩ := hrel
    by_cases hlt : i < 8
    · have H3 := hid (inn_step hlt H.out)
      clear H
      by_cases c1 : bitN b i = 1
      · have t1 := bit_yes (u8_bit b i hb) c1
        have H4 := hid (by have h := H3.out; rw [if_pos c1] at h; exact h)
        have h2 := pow2_le (show i ≤ 7 by omega)
        have h3 : a * 2 ^ i < 32768 := by
          have : a * 2 ^ i ≤ 255 * 2 ^ 7 := Nat.mul_le_mul (by omega) h2
          omega
        have hx := xor15 hn h3
        have P1 := hid (shl64 a i (by omega) (by omega))
        have P2 := hid (i64_xor_nat n (a * 2 ^ i) (by omega) (by omega))
        clear c1 H3 h2 h3
        go_wp2_with fail
        go_round
        case rel => exact ⟨i + 1, n ^^^ a * 2 ^ i, by omega, hx, by rw [P1.out, P2.out], by go_num, H4⟩
        case measure => simp [intOf]; omega
      · have t1 := bit_no (u8_bit b i hb) c1
        have H4 := hid (by have h := H3.out; rw [if_neg c1] at h; exact h)
        clear c1 H3
        go_wp2_with fail
        go_round
        case rel => exact ⟨i + 1, n, by omega, hn, rfl, by go_num, H4⟩
        case measure => simp [intOf]; omega
    · obtain rfl : i = 8 := by omega
      have H1 := hid (show n = AesM.inn 8 a b 0 0 from H.out)
      clear H
      go_wp2_with fail
      go_loop [5, 7] (fun s i => ∃ i' m : Nat, 7 ≤ i' ∧ i' ≤ 14 ∧ m < 32768 ∧ s = .int .i64 m ∧ i = .int .i64 i' ∧ Hid (AesM.red (i' - 7) m = AesM.red 7 n)) (fun _ i => (intOf i).toNat)
      case atStart => exact ⟨14, n, by omega, by omega, hn, rfl, rfl, rfl⟩
      case round =>
        obtain ⟨i, m, h7, h14, hm, rfl, rfl, H2⟩ := hrel
        by_cases h0 : i = 7
        · subst h0
          have HF := hid (show m % 256 = AesM.rm a b from by
            unfold AesM.rm; rw [← H1.out, ← H2.out]; rfl)
          go_wp2_with fail
          go_ret
          exact ⟨ret_int (by have h := HF.out; omega), rfl⟩
        · have H3 := hid (red_step (by omega) H2.out)
          by_cases c1 : bitN m i = 1
          · have t1 : (bits BinOp.and IntKind.i64 ((m : Int) / 2 ^ i) 1 == 1) = true := bit_yes (i64_bit m i (by omega)) c1
            have H4 := hid (by have h := H3.out; rw [if_pos c1] at h; exact h)
            have h2 := pow2_le (show i - 8 ≤ 6 by omega)
            have hx := xor15 hm (c := 283 * 2 ^ (i - 8)) (by omega)
            have P1 := hid (shl64 283 (i - 8) (by omega) (by omega))
            have P2 := hid (i64_xor_nat m (283 * 2 ^ (i - 8)) (by omega) (by omega))
            have h8 : 8 ≤ i := by omega
            clear H3 H2 c1 h0 h2
            go_wp2_with fail
            go_round
            case rel => exact ⟨i - 1, m ^^^ 283 * 2 ^ (i - 8), by omega, by omega, hx, by rw [show (283 : Int) = ((283 : Nat) : Int) from rfl, P1.out, P2.out], by go_num, H4⟩
            case measure => simp [intOf]; omega
          · have t1 : (bits BinOp.and IntKind.i64 ((m : Int) / 2 ^ i) 1 == 1) = false := bit_no (i64_bit m i (by omega)) c1
            have H4 := hid (by have h := H3.out; rw [if_neg c1] at h; exact h)
            have h8 : 8 ≤ i := by omega
            clear H3 H2 c1 h0
            go_wp2_with fail
            go_round
            case rel => exact ⟨i - 1, m, by omega, by omega, hm, rfl, by go_num, H4⟩
            case measure => simp [intOf]; omega
theorem rinv_any (a : Nat) (ha : a < 256) (w : World) :
    Calls Try.prog 49 #[.int .u8 a] w fun e w' => e = .returned (.int .u8 (AesM.rinv a : Nat)) ∧ w = w' := by
  go_enter Try.func49, Try.ntmps49
  go_wp2_with fail
  go_loop [0, 3, 4] (fun s x i => ∃ i' b y : Nat, i' ≤ 7 ∧ b < 256 ∧ y < 256 ∧ s = .int .u8 b ∧ x = .int .u8 y ∧ i = .int .i64 i' ∧ Hid (AesM.rinvGo (7 - i') b y = AesM.rinv a)) (fun _ _ i => 7 - (intOf i).toNat)
  case atStart => exact ⟨0, a, 1, by omega, ha, by omega, rfl, rfl, rfl, rfl⟩
  case round =>
    obtain ⟨i, b, y, hi, hb, hy, rfl, rfl, rfl, H⟩ := hrel
    by_cases hlt : i < 7
    · have H3 := hid (show AesM.rinvGo (7 - (i + 1)) (AesM.rm b b) (AesM.rm y (AesM.rm b b)) = AesM.rinv a by
        have h := H.out
        rw [show 7 - i = (7 - (i + 1)) + 1 by omega, AesM.rinvGo] at h
        exact h)
      have hbb := AesM.rm_lt b b
      have hyb := AesM.rm_lt y (AesM.rm b b)
      clear H
      go_wp2_with fail
      refine (rmul_any b b hb hb w).mono ?_
      rintro e w' ⟨rfl, rfl⟩
      go_wp2_with fail
      refine (rmul_any y (AesM.rm b b) hy hbb w).mono ?_
      rintro e w' ⟨rfl, rfl⟩
      go_wp2_with fail
      go_round
      case rel => exact ⟨i + 1, AesM.rm b b, AesM.rm y (AesM.rm b b), by omega, hbb, hyb, rfl, rfl, by go_num, H3⟩
      case measure => simp [intOf]; omega
    · obtain rfl : i = 7 := by omega
      have H1 : y = AesM.rinv a := H.out
      go_wp2_with fail
      go_ret
      exact ⟨rfl, rfl⟩
theorem rbit_any (b j : Nat) (hb : b < 256) (hj : j < 16) (w : World) :
    Calls Try.prog 50 #[.int .u8 b, .int .i64 j] w fun e w' => e = .returned (.int .u8 (bitN b (j % 8) : Nat)) ∧ w = w' := by
  go_enter Try.func50, Try.ntmps50
  go_wp2_with fail
  go_ret
  exact ⟨ret_int (u8_bit b (j % 8) hb), rfl⟩
theorem rbit_add (b i c : Nat) (hb : b < 256) (hj : i + c < 16) (w : World) :
    Calls Try.prog 50 #[.int .u8 b, .int .i64 ((i : Int) + (c : Int))] w fun e w' => e = .returned (.int .u8 (bitN b ((i + c) % 8) : Nat)) ∧ w = w' := by
  have h := rbit_any b (i + c) hb hj w
  rw [Int.natCast_add] at h
  exact h
set_option maxRecDepth 100000 in
theorem rbox_any (a : Nat) (ha : a < 256) (w : World) :
    Calls Try.prog 45 #[.int .u8 a] w fun e w' => e = .returned (.int .u8 (AesM.boxF a : Nat)) ∧ w = w' := by
  have HE := hid (AesM.rbox_eq a ha)
  have hr : AesM.rinv a < 256 := AesM.rinvGo_lt 7 a 1 (by omega)
  go_enter Try.func45, Try.ntmps45
  go_wp2_with fail
  refine (rinv_any a ha w).mono ?_
  rintro e w' ⟨rfl, rfl⟩
  generalize AesM.rinv a = b at HE hr ⊢
  go_wp2_with fail
  go_loop [4, 5] (fun o i => ∃ i' : Nat, i' ≤ 8 ∧ o = .int .u8 (AesM.bxGo b i' : Nat) ∧ i = .int .i64 i') (fun _ i => 8 - (intOf i).toNat)
  case atStart => exact ⟨0, by omega, rfl, rfl⟩
  case round =>
    obtain ⟨i, hi, rfl, rfl⟩ := hrel
    by_cases hlt : i < 8
    · have B0 := AesM.bitN_lt b (i % 8)
      have B4 := AesM.bitN_lt b ((i + 4) % 8)
      have B5 := AesM.bitN_lt b ((i + 5) % 8)
      have B6 := AesM.bitN_lt b ((i + 6) % 8)
      have B7 := AesM.bitN_lt b ((i + 7) % 8)
      have B9 := AesM.bitN_lt 99 (i % 8)
      have X1 := hid (u8_xor_nat _ _ B0 B4)
      have X2 := hid (u8_xor_nat _ _ (AesM.xor_lt B0 B4) B5)
      have X3 := hid (u8_xor_nat _ _ (AesM.xor_lt (AesM.xor_lt B0 B4) B5) B6)
      have X4 := hid (u8_xor_nat _ _ (AesM.xor_lt (AesM.xor_lt (AesM.xor_lt B0 B4) B5) B6) B7)
      have X5 := hid (u8_xor_nat _ _ (AesM.xor_lt (AesM.xor_lt (AesM.xor_lt (AesM.xor_lt B0 B4) B5) B6) B7) B9)
      have XB := hid (AesM.xb_lt b i)
      have OR := hid (show bits .or .u8 ((AesM.bxGo b i : Nat) : Int) ((AesM.xb b i : Int) * 2 ^ i % 256) = ((AesM.bxGo b (i + 1) : Nat) : Int) by
        have h := u8_or_nat (AesM.bxGo b i) (AesM.xb b i * 2 ^ i % 256) (AesM.bxGo_lt b i) (Nat.mod_lt _ (by omega))
        rw [show ((AesM.xb b i : Int) * 2 ^ i % 256) = ((AesM.xb b i * 2 ^ i % 256 : Nat) : Int) by norm_cast]
        exact h)
      clear B0 B4 B5 B6 B7 B9
      go_wp2_with fail
      refine (rbit_any b i hr (by omega) w).mono ?_
      rintro e w' ⟨rfl, rfl⟩
      go_wp2_with fail
      refine (rbit_add b i 4 hr (by omega) w).mono ?_
      rintro e w' ⟨rfl, rfl⟩
      have x := X1.out
      go_wp2_with fail
      clear x
      refine (rbit_add b i 5 hr (by omega) w).mono ?_
      rintro e w' ⟨rfl, rfl⟩
      have x := X2.out
      go_wp2_with fail
      clear x
      refine (rbit_add b i 6 hr (by omega) w).mono ?_
      rintro e w' ⟨rfl, rfl⟩
      have x := X3.out
      go_wp2_with fail
      clear x
      refine (rbit_add b i 7 hr (by omega) w).mono ?_
      rintro e w' ⟨rfl, rfl⟩
      have x := X4.out
      go_wp2_with fail
      clear x
      refine (rbit_any 99 i (by omega) (by omega) w).mono ?_
      rintro e w' ⟨rfl, rfl⟩
      have x := X5.out
      have y : bitN b (i % 8) ^^^ bitN b ((i + 4) % 8) ^^^ bitN b ((i + 5) % 8) ^^^ bitN b ((i + 6) % 8) ^^^ bitN b ((i + 7) % 8) ^^^ bitN 99 (i % 8) = AesM.xb b i := rfl
      rw [y] at x
      clear y
      have o := OR.out
      have tx := XB.out
      go_wp2_with fail
      go_round
      case rel => exact ⟨i + 1, by omega, by rw [← o], by go_num⟩
      case measure => simp [intOf]; omega
    · obtain rfl : i = 8 := by omega
      have h := HE.out
      go_wp2_with fail
      go_ret
      exact ⟨rfl, rfl⟩
end AesP
end Go.Proofs.Ytkcfonlondlmeaa
namespace Go.Proofs.Ytkcfonlondlmeaa
open Go.ChangeShapes Go.WideShapes Go.ChangeAt Go.RowKit Go.Deep
theorem choose_lt {α : Type} [Inhabited α] {n : Nat} {P : Nat → α → Prop} (h : ∀ k, k < n → ∃ a, P k a) : ∃ f : Nat → α, ∀ k, k < n → P k (f k) :=
  ⟨fun k => if hk : k < n then (h k hk).choose else default, fun k hk => by simp only [hk, dif_pos]; exact (h k hk).choose_spec⟩
theorem u8_wf {a : Int} (h : (Lit.int .u8 a).wf = true) : ∃ n : Nat, a = n ∧ n < 256 := by
  simp [Lit.wf, IntKind.min, IntKind.max, IntKind.bits, IntKind.signed] at h
  exact ⟨a.toNat, by omega, by omega⟩
theorem cells_u8 : Try.prog.cellsOf 5 = 1 := by kernel_rfl
end Go.Proofs.Ytkcfonlondlmeaa
namespace Go.Proofs.Ytkcfonlondlmeaa
open Go.ChangeShapes Go.WideShapes Go.ChangeAt Go.RowKit Go.Deep
section
variable {H : Type} {enc : TypeId × Value → H} {w : World} {base : Nat} {spare : Nat → Bool} {held : Bool}
set_option maxRecDepth 100000 in
theorem open_byts {r : Reach} {b0 : Nat} {v : Value} {d : DataW H} {p : List MemPlace} (hv : Value.okWide Try.prog w r b0 71 v) (h : DataW.Trod enc Try.prog w base spare held 71 v d p) :
    ∃ (A : Option Addr) (l : List Nat) (n cap : Nat), v = .slice A n cap ∧ l.length = n ∧ n ≤ cap ∧ cap ≤ maxLen ∧ B256 l ∧ Byt w w.heap.size A l ∧ (A = none → n = 0 ∧ cap = 0) := by
  obtain ⟨A, n, cap, rfl⟩ := okWide_slice Try.underlying71 hv
  obtain ⟨fuel, hf⟩ := h
  rcases open_ints Try.underlying71 Try.underlying5 cells_u8 hf with ⟨hcs, _⟩ | ⟨a, len, cap', zs, hcs, _, hl, hm, hz, _, hcell, hwz⟩
  · simp [Value.cells] at hcs
    obtain ⟨rfl, rfl, rfl⟩ := hcs
    exact ⟨none, [], 0, 0, rfl, rfl, Nat.le_refl _, Nat.zero_le _, (fun x hx => by cases hx), Byt.none rfl, fun _ => ⟨rfl, rfl⟩⟩
  · simp [Value.cells] at hcs
    obtain ⟨rfl, rfl, rfl⟩ := hcs
    have hnz : n ≤ zs.length := by rw [hz]; split <;> omega
    have hlen : ((zs.take n).map Int.toNat).length = n := by rw [List.length_map, List.length_take]; omega
    have hat : ∀ i, i < n → ∃ k : Nat, zs.getD i 0 = k ∧ k < 256 ∧ ((zs.take n).map Int.toNat).getD i 0 = k := fun i hi => by
      have hi' : i < zs.length := by omega
      have hg : zs.getD i 0 = zs[i] := by rw [List.getD_eq_getElem?_getD, List.getElem?_eq_getElem hi']; rfl
      obtain ⟨k, hk, hk2⟩ := u8_wf (hwz zs[i] (List.getElem_mem hi'))
      refine ⟨k, hg.trans hk, hk2, ?_⟩
      rw [List.getD_eq_getElem?_getD, List.getElem?_map, List.getElem?_take_of_lt hi, List.getElem?_eq_getElem hi', hk]
      rfl
    refine ⟨some a, (zs.take n).map Int.toNat, n, cap, rfl, hlen, hl, hm, fun x hx => ?_, fun hn => ?_, fun h => by cases h⟩
    · obtain ⟨i, hi⟩ := List.getElem?_of_mem hx
      have hin : i < n := by have := (List.getElem?_eq_some_iff.1 hi).1; omega
      obtain ⟨k, _, hk, he⟩ := hat i hin
      rw [List.getD_eq_getElem?_getD, hi] at he
      have : x = k := he
      omega
    · rw [hlen] at hn
      have h0 := hcell 0 (by omega)
      have hsp : a.spot = none := by
        simp only [Addr.add, if_true] at h0
        unfold World.cell? at h0
        split at h0
        · cases hs : a.spot with
          | none => rfl
          | some s => simp [hs] at h0
        · cases h0
      have hblk : a.block < w.heap.size := by
        have := World.block_lt_of_cell? w _ h0
        simpa [Addr.add] using this
      obtain ⟨b, o, sp⟩ := a
      subst hsp
      refine ⟨b, o, rfl, hblk, fun i hi => ?_⟩
      rw [hlen] at hi
      obtain ⟨k, h1, _, h2⟩ := hat i hi
      have h3 := hcell i (by omega)
      rw [Addr.add_mid, h1] at h3
      rw [h3, h2]
end
end Go.Proofs.Ytkcfonlondlmeaa
namespace Go.Proofs.Ytkcfonlondlmeaa
open Go.ChangeShapes Go.WideShapes Go.ChangeAt Go.RowKit Go.Deep
/-- A slice of slices of bytes that came in; a part that is nil has no bytes and no room. -/
def PrtsN (w : World) (B : Nat) (A : Option Addr) (ls : List (List Nat)) : Prop :=
  0 < ls.length → ∃ b o, A = some ⟨b, o, none⟩ ∧ b < B ∧ ∀ i, i < ls.length → ∃ A' c, w.cell? ⟨b, o + i, none⟩ = some (.slice A' (ls.getD i []).length c) ∧ (ls.getD i []).length ≤ c ∧ c ≤ maxLen ∧ Byt w B A' (ls.getD i []) ∧ (A' = none → (ls.getD i []).length = 0 ∧ c = 0)
theorem PrtsN.below {B B' : Nat} {w w' : World} {A : Option Addr} {ls : List (List Nat)} (h : PrtsN w B A ls) (hb : Below B' w w') (hB : B ≤ B') : PrtsN w' B A ls := fun hn => by
  obtain ⟨b, o, rfl, hl, hr⟩ := h hn
  refine ⟨b, o, rfl, hl, fun i hi => ?_⟩
  obtain ⟨A', c, h1, h2, h3, h4, h5⟩ := hr i hi
  exact ⟨A', c, (hb.cell (p := ⟨b, o + i, none⟩) (by show b < B'; omega)).trans h1, h2, h3, h4.below hb hB, h5⟩
theorem PrtsN.more {w : World} {B B' : Nat} {A : Option Addr} {ls : List (List Nat)} (h : PrtsN w B A ls) (hB : B ≤ B') : PrtsN w B' A ls := fun hn => by
  obtain ⟨b, o, rfl, hl, hr⟩ := h hn
  refine ⟨b, o, rfl, by omega, fun i hi => ?_⟩
  obtain ⟨A', c, h1, h2, h3, h4, h5⟩ := hr i hi
  exact ⟨A', c, h1, h2, h3, h4.more hB, h5⟩
theorem cells_sl : Try.prog.cellsOf 71 = 1 := by kernel_rfl
section
variable {H : Type} {enc : TypeId × Value → H} {w : World} {base : Nat} {spare : Nat → Bool} {held : Bool}
theorem trod_byts {fuel : Nat} {cs : List Value} {x : DataW H × List MemPlace} (h : DataW.trod enc Try.prog w base spare held fuel 71 cs = some x) :
    ∃ (A : Option Addr) (l : List Nat) (cap : Nat), cs = [.slice A l.length cap] ∧ l.length ≤ cap ∧ cap ≤ maxLen ∧ B256 l ∧ Byt w w.heap.size A l ∧ (A = none → l.length = 0 ∧ cap = 0) := by
  rcases open_ints Try.underlying71 Try.underlying5 cells_u8 h with ⟨hcs, _⟩ | ⟨a, n, cap, zs, hcs, _, hl, hm, hz, _, hcell, hwz⟩
  · subst hcs
    exact ⟨none, [], 0, rfl, Nat.le_refl _, Nat.zero_le _, (fun x hx => by cases hx), Byt.none rfl, fun _ => ⟨rfl, rfl⟩⟩
  · subst hcs
    have hnz : n ≤ zs.length := by rw [hz]; split <;> omega
    have hlen : ((zs.take n).map Int.toNat).length = n := by rw [List.length_map, List.length_take]; omega
    have hat : ∀ i, i < n → ∃ k : Nat, zs.getD i 0 = k ∧ k < 256 ∧ ((zs.take n).map Int.toNat).getD i 0 = k := fun i hi => by
      have hi' : i < zs.length := by omega
      have hg : zs.getD i 0 = zs[i] := by rw [List.getD_eq_getElem?_getD, List.getElem?_eq_getElem hi']; rfl
      obtain ⟨k, hk, hk2⟩ := u8_wf (hwz zs[i] (List.getElem_mem hi'))
      refine ⟨k, hg.trans hk, hk2, ?_⟩
      rw [List.getD_eq_getElem?_getD, List.getElem?_map, List.getElem?_take_of_lt hi, List.getElem?_eq_getElem hi', hk]
      rfl
    refine ⟨some a, (zs.take n).map Int.toNat, cap, by rw [hlen], by rw [hlen]; exact hl, hm, fun x hx => ?_, fun hn => ?_, fun h => by cases h⟩
    · obtain ⟨i, hi⟩ := List.getElem?_of_mem hx
      have hin : i < n := by have := (List.getElem?_eq_some_iff.1 hi).1; omega
      obtain ⟨k, _, hk, he⟩ := hat i hin
      rw [List.getD_eq_getElem?_getD, hi] at he
      have : x = k := he
      omega
    · rw [hlen] at hn
      have h0 := hcell 0 (by omega)
      have hsp : a.spot = none := by
        simp only [Addr.add, if_true] at h0
        unfold World.cell? at h0
        split at h0
        · cases hs : a.spot with
          | none => rfl
          | some s => simp [hs] at h0
        · cases h0
      have hblk : a.block < w.heap.size := by
        have := World.block_lt_of_cell? w _ h0
        simpa [Addr.add] using this
      obtain ⟨b, o, sp⟩ := a
      subst hsp
      refine ⟨b, o, rfl, hblk, fun i hi => ?_⟩
      rw [hlen] at hi
      obtain ⟨k, h1, _, h2⟩ := hat i hi
      have h3 := hcell i (by omega)
      rw [Addr.add_mid, h1] at h3
      rw [h3, h2]
set_option maxRecDepth 100000 in
theorem open_prts {r : Reach} {b0 : Nat} {v : Value} {d : DataW H} {p : List MemPlace} (hv : Value.okWide Try.prog w r b0 77 v) (h : DataW.Trod enc Try.prog w base spare held 77 v d p) :
    ∃ (A : Option Addr) (ls : List (List Nat)) (n cap : Nat), v = .slice A n cap ∧ ls.length = n ∧ n ≤ cap ∧ cap ≤ maxLen ∧ (∀ l ∈ ls, B256 l) ∧ PrtsN w w.heap.size A ls ∧ (A = none → n = 0 ∧ cap = 0) := by
  obtain ⟨A, n, cap, rfl⟩ := okWide_slice Try.underlying77 hv
  obtain ⟨fuel, hf⟩ := h
  rcases open_slice Try.underlying77 hf with ⟨hcs, _⟩ | ⟨a, len, cap', m, fu, D, Pl, hcs, hb, hl, hm, hmm, hx, hi⟩
  · simp [Value.cells] at hcs
    obtain ⟨rfl, rfl, rfl⟩ := hcs
    exact ⟨none, [], 0, 0, rfl, rfl, Nat.le_refl _, Nat.zero_le _, (fun x hx => by cases hx), (fun h => absurd h (by simp)), fun _ => ⟨rfl, rfl⟩⟩
  · simp [Value.cells] at hcs
    obtain ⟨rfl, rfl, rfl⟩ := hcs
    have hnm : n ≤ m := by rw [hmm]; split <;> omega
    have one : ∀ i, i < n → ∃ y : List Nat, B256 y ∧ ∃ (A' : Option Addr) (c : Nat), w.cell? (a.add i) = some (.slice A' y.length c) ∧ y.length ≤ c ∧ c ≤ maxLen ∧ Byt w w.heap.size A' y ∧ (A' = none → y.length = 0 ∧ c = 0) := fun i hin => by
      obtain ⟨cs', hc, ht⟩ := hi i (by omega)
      obtain ⟨A', y, c, e, h1, h2, h3, h4, h5⟩ := trod_byts ht
      subst e
      have h6 := (World.cells?_some hc).2.2 0 (by rw [cells_sl]; omega)
      rw [Go.Deep.add_add, cells_sl, Nat.mul_one, Nat.add_zero] at h6
      exact ⟨y, h3, A', c, h6, h1, h2, h4, h5⟩
    obtain ⟨F, hF⟩ := choose_lt one
    have hg : ∀ i, i < n → (((List.range n).map F).getD i []) = F i := fun i hi => by
      rw [List.getD_eq_getElem?_getD, List.getElem?_map, List.getElem?_range hi]; rfl
    refine ⟨some a, (List.range n).map F, n, cap, rfl, by simp, hl, hm, fun l hl2 => ?_, fun hn => ?_, fun h => by cases h⟩
    · obtain ⟨i, hi2, rfl⟩ := List.mem_map.1 hl2
      exact (hF i (List.mem_range.1 hi2)).1
    · have hn' : 0 < n := by simpa using hn
      obtain ⟨_, A0, c0, h0, _⟩ := hF 0 hn'
      have hsp : a.spot = none := by
        simp only [Addr.add, if_true] at h0
        unfold World.cell? at h0
        split at h0
        · cases hs : a.spot with
          | none => rfl
          | some s => simp [hs] at h0
        · cases h0
      have hblk : a.block < w.heap.size := by
        have := World.block_lt_of_cell? w _ h0
        simpa [Addr.add] using this
      obtain ⟨b, o, sp⟩ := a
      subst hsp
      refine ⟨b, o, rfl, hblk, fun i hi2 => ?_⟩
      have hin : i < n := by simpa using hi2
      obtain ⟨_, A', c, h1, h2, h3, h4, h5⟩ := hF i hin
      rw [Addr.add_mid] at h1
      rw [hg i hin]
      exact ⟨A', c, h1, h2, h3, h4, h5⟩
end
end Go.Proofs.Ytkcfonlondlmeaa
namespace Go.Proofs.Ytkcfonlondlmeaa
open Go.ChangeShapes Go.WideShapes Go.ChangeAt Go.RowKit
/-- A slice of slices of the call's own. -/
def OwnP (w : World) (B : Nat) (v : Value) (cs : List Value) : Prop := w.ownsRow B 71 1 v cs.length cs
theorem infP : ∃ i : TypeInfo, Try.prog.info? 71 = some i ∧ i.zero = some (.slice none 0 0) ∧ i.size = 1 ∧ i.bytes ≤ 24 := by
  have h1 : (Try.prog.info? 71).map (·.size) = some 1 := by kernel_rfl
  have h2 : (Try.prog.info? 71).map (fun i => decide (i.bytes ≤ 24)) = some true := by kernel_rfl
  have h3 : (Try.prog.info? 71).bind (·.zero) = some (.slice none 0 0) := by kernel_rfl
  cases hi : Try.prog.info? 71 with
  | none => rw [hi] at h1; cases h1
  | some i =>
    rw [hi] at h1 h2 h3
    simp only [Option.map_some, Option.some.injEq, decide_eq_true_eq, Option.bind_some] at h1 h2 h3
    exact ⟨i, rfl, h3, h1, h2⟩
section
variable {ops : Array Oper} {Q : Exit → Act → World → Prop} {a : Act} {w : World} {rest : List Oper} {dst : Option Tmp} {ty : TypeId} {pos : String} {after : Array Edge} {s x : Operand} {c B g n' c' : Nat} {v : Value} {cs : List Value} {A : Option Addr} {t : TypeId}
theorem wappP (hs : a.eval s = v) (hx : a.eval x = .slice (some ⟨g, 0, none⟩) 1 c) (hown : OwnP w B v cs) (hb : Blk w g t #[.slice A n' c']) (hsz : cs.length ≤ 1000) (hB : B ≤ w.heap.size)
    (h : ∀ v' w', OwnP w' B v' (cs ++ [.slice A n' c']) → w.grownBy w' v.ownBlock → wpList Try.prog ops Q rest (a.put dst v') w') :
    wpList Try.prog ops Q (⟨dst, .call { callee := .builtin .append, args := #[s, x], argTypes := #[77, 77] }, ty, pos, after, none⟩ :: rest) a w := by
  obtain ⟨i, hi, hz, h1, h2⟩ := infP
  obtain ⟨v', w', hr, ho, hg, _⟩ := run_append_own (P := Try.prog) w B 77 ty 71 i (.slice none 0 0) 1 i.bytes Try.underlying77 hi hz h1 rfl rfl (by decide) v cs.length _ hown ⟨g, 0, none⟩ 1 c [.slice A n' c'] rfl
    (fun j u hj => by
      match j, hj with
      | 0, hj =>
        cases hj
        exact hb.cell 0)
    (fun u hu => by rw [List.mem_singleton.1 hu]; rfl)
    (by unfold maxLen; omega) (Nat.le_trans (Nat.mul_le_mul (show cs.length + 1 ≤ 1001 by omega) h2) (by omega)) hB
  refine wpList_plain rfl fun K hK => ?_
  unfold Oper.wp execOp
  simp only [resolve, invoke, builtin, Sem.run_bind, Sem.run_pure, Result.andThen_ok, List.map_toArray, List.map_cons, List.map_nil, hs, hx, hr]
  exact hK _ _ (h v' w' (by unfold OwnP; rw [List.length_append]; exact ho) hg)
end
theorem OwnP.nil (w : World) (B : Nat) : OwnP w B (.slice none 0 0) [] := World.ownsRow_nil w B _ 1
theorem OwnP.heap {w w' : World} {B : Nat} {v : Value} {cs : List Value} (h : OwnP w B v cs) (hh : w'.heap = w.heap) : OwnP w' B v cs := by
  refine ⟨h.1, ?_⟩
  rcases h.2 with h' | ⟨g, cap, cur, hv, hB, hg, hr⟩
  · exact .inl h'
  · exact .inr ⟨g, cap, cur, hv, hB, by rw [hh]; exact hg, hr⟩
/-- What lies in cell j. -/
def PCell (w : World) (ls : List (List Nat)) (cs : List Value) : Prop :=
  ∀ j, j < cs.length → ∃ A' c, cs[j]? = some (.slice A' (ls.getD j []).length c) ∧ (ls.getD j []).length ≤ c ∧ c ≤ maxLen ∧ Byt w w.heap.size A' (ls.getD j []) ∧ (A' = none → (ls.getD j []).length = 0 ∧ c = 0)
theorem OwnP.parts {w wr : World} {B : Nat} {v : Value} {cs : List Value} {ls : List (List Nat)} (h : OwnP wr B v cs) (hp : PCell w ls cs) (hl : ls.length = cs.length) (hb : Below w.heap.size w wr) : ∃ A cap, v = .slice A cs.length cap ∧ PrtsN wr wr.heap.size A ls := by
  rcases h.2 with ⟨rfl, h0⟩ | ⟨g, cap, cur, rfl, hB, hg, hnc, hcm, hcs, ht⟩
  · exact ⟨none, 0, by rw [h0], fun hn => by omega⟩
  · refine ⟨_, cap, rfl, fun _ => ⟨g, 0, rfl, Blk.lt (t := 71) (cs := cur) hg, fun i hi => ?_⟩⟩
    obtain ⟨A', c, h1, h2, h3, h4, h5⟩ := hp i (by omega)
    refine ⟨A', c, ?_, h2, h3, (h4.below hb (Nat.le_refl _)).more hb.size, h5⟩
    rw [Nat.zero_add, cell_of_row wr g i cur _ _ hg]
    rw [← ht, List.getElem?_take_of_lt (by omega), Array.getElem?_toList] at h1
    exact h1
theorem PCell.snoc {w : World} {ls : List (List Nat)} {cs : List Value} (h : PCell w ls cs) {A' : Option Addr} {M c : Nat} (hM : (ls.getD cs.length []).length = M) (h2 : M ≤ c) (h3 : c ≤ maxLen) (h4 : Byt w w.heap.size A' (ls.getD cs.length [])) (h5 : A' = none → M = 0 ∧ c = 0) : PCell w ls (cs ++ [.slice A' M c]) := by
  intro j hj
  rw [List.length_append, List.length_singleton] at hj
  by_cases e : j < cs.length
  · rw [List.getElem?_append_left e]
    exact h j e
  · obtain rfl : j = cs.length := by omega
    refine ⟨A', c, ?_, by omega, h3, h4, by rw [hM]; exact h5⟩
    rw [List.getElem?_append_right (Nat.le_refl _), Nat.sub_self, hM]
    rfl
end Go.Proofs.Ytkcfonlondlmeaa
namespace Go.Proofs.Ytkcfonlondlmeaa
open Go.ChangeShapes Go.WideShapes Go.ChangeAt Go.RowKit
theorem eltB : Elt 71 5 .u8 := elt_of Try.underlying71 (by kernel_rfl) (by kernel_rfl) (by kernel_rfl)
theorem byt_lit {w : World} {B g : Nat} {t : TypeId} {cs : Array Value} {fr : Nat × Nat} (h : w.heap[g]? = some (.cells cs t fr)) (hg : g < B) {l : List Nat} (hl : ∀ j, j < l.length → cs[j]? = some (.int .u8 (l.getD j 0 : Nat))) : Byt w B (some ⟨g, 0, none⟩) l := fun _ =>
  ⟨g, 0, rfl, hg, fun i hi => by rw [Nat.zero_add, cell_of_row w g i cs t fr h]; exact hl i hi⟩
theorem lit_ok {l : List Nat} {cs : Array Value} (h : cs = (nums .u8 l).toArray) : ∀ j, j < l.length → cs[j]? = some (.int .u8 (l.getD j 0 : Nat)) := fun j hj => by
  rw [h, List.getElem?_toArray]; exact nums_get .u8 hj
end Go.Proofs.Ytkcfonlondlmeaa
namespace Go.Proofs.Ytkcfonlondlmeaa
open Go.ChangeShapes Go.WideShapes Go.ChangeAt Go.RowKit
open AesM (Bt tab)
attribute [local go_sem] Gives
theorem OwnP.below {w w' : World} {B : Nat} {v : Value} {cs : List Value} (h : OwnP w B v cs) (hb : Below w.heap.size w w') : OwnP w' B v cs := by
  refine ⟨h.1, ?_⟩
  rcases h.2 with h' | ⟨g, cap, cur, hv, hB, hg, hr⟩
  · exact .inl h'
  · exact .inr ⟨g, cap, cur, hv, hB, (hb.block g (Blk.lt (t := 71) (cs := cur) hg)).trans hg, hr⟩
theorem OwnP.alloc {w : World} {B : Nat} {v : Value} {cs : List Value} (h : OwnP w B v cs) (o : Obj) : OwnP (w.alloc o) B v cs := h.below ((Below.refl _ _).alloc (Nat.le_refl _) _)
theorem OwnP.ownGe {w : World} {B : Nat} {v : Value} {cs : List Value} (h : OwnP w B v cs) {g : Nat} (e : v.ownBlock = some g) : B ≤ g := by
  rcases h.2 with ⟨rfl, _⟩ | ⟨g', cap, cur, rfl, hB, _⟩
  · cases e
  · cases e; exact hB
theorem below_grownP {B B' : Nat} {w0 w w' : World} {v : Value} {cs : List Value} (hb : Below B w0 w) (hg : w.grownBy w' v.ownBlock) (ho : OwnP w B' v cs) (hBB : B ≤ B') (hB : B ≤ w.heap.size) : Below B w0 w' := hb.grown hg hB fun _ e => Nat.le_trans hBB (ho.ownGe e)
namespace AesP
theorem tab_take {n k : Nat} {f : Nat → Nat} (h : k < n) : (tab n f).take (k + 1) = (tab n f).take k ++ [f k] := by
  have hl : k < (tab n f).length := by rw [AesM.length_tab]; exact h
  rw [List.take_succ_eq_append_getElem hl]
  congr 2
  simp [tab]
set_option maxRecDepth 100000 in
theorem boxes_any (w : World) :
    Calls Try.prog 31 #[] w fun e w' => ∃ g o cap, e = .returned (.slice (some ⟨g, o, none⟩) 256 cap) ∧ g < w'.heap.size ∧ w'.rangeAt g o (ar 256 AesM.boxF).toList ∧ Below w.heap.size w w' := by
  go_enter Try.func31, Try.ntmps31
  go_wp2_with fail
  go_loopw [1, 2] (fun u v wr => ∃ (i : Nat) (vo : Value), i ≤ 256 ∧ v = .int .i64 i ∧ u = vo ∧ Hid (Own 5 .u8 wr w.heap.size vo ((tab 256 AesM.boxF).take i)) ∧ Hid (Below w.heap.size w wr)) (fun _ v => fun _ => 256 - (intOf v).toNat)
  case atStart => exact ⟨0, _, by omega, rfl, rfl, hid Own.nil, hid (Below.refl _ _)⟩
  case round =>
    obtain ⟨i, vo, hi, rfl, rfl, ho, hb⟩ := hrel
    have hzw := hb.out.size
    by_cases hlt : i < 256
    · have ti : (i : Int) < 256 := by omega
      have HST := hid (tab_take (f := AesM.boxF) hlt)
      have HLEN := hid (show ((tab 256 AesM.boxF).take i).length = i by rw [List.length_take, AesM.length_tab]; omega)
      have e1 : IntKind.u8.wrap (i : Int) = (i : Int) := by rw [IntKind.wrap_u8]; omega
      have RB := hid fun w => rbox_any i hlt w
      generalize AesM.boxF i = x at *
      go_wp2_with fail
      refine (RB.out wr).mono ?_
      rintro e w' ⟨rfl, rfl⟩
      go_wp2_with (at_builtin; (with_reducible apply wappN eltB); rfl; rfl; exact ho.out.alloc _; exact nums_one (x := x) (B := wr.heap.size + 1) rfl (Nat.lt_succ_self _); rfl; (rw [HLEN.out]; omega); (simp; omega); intro v' w4 o4 g4)
      have b4 := below_grown (hb.out.alloc hzw (.cells #[.int .u8 (x : Nat)] 5)) g4 ho.out (Nat.le_refl _) (Nat.le_refl _)
      go_roundw
      case rel => exact ⟨i + 1, v', by omega, by go_num, rfl, hid (by rw [HST.out]; exact o4), hid b4⟩
      case measure => simp [intOf] <;> omega
    · obtain rfl : i = 256 := by omega
      have ho2 := ho.out
      rw [List.take_of_length_le (by rw [AesM.length_tab]; omega)] at ho2
      obtain ⟨A, cap, rfl, _, _, hn⟩ := ho2.any
      rw [AesM.length_tab]
      obtain ⟨b, o, rfl, hbl, hr⟩ := hn (by rw [AesM.length_tab]; omega)
      go_wp2_with fail
      go_ret
      refine ⟨b, o, cap, rfl, hbl, fun j v hv => ?_, hb.out⟩
      obtain ⟨h1, rfl⟩ := ar_list_get hv
      rw [hr j (by rw [AesM.length_tab]; exact h1), AesM.getD_tab h1]
/-- n words of the call's own. -/
def WS (w : World) (B : Nat) (v : Value) (L : Nat → Nat → Nat) (n : Nat) : Prop :=
  ∃ cs, OwnP w B v cs ∧ cs.length = n ∧ ∀ i, i < n → ∃ G, cs[i]? = some (.slice (some ⟨G, 0, none⟩) 4 4) ∧ Blk w G 5 (ar 4 (L i))
theorem WS.nil (w : World) (B : Nat) (L : Nat → Nat → Nat) : WS w B (.slice none 0 0) L 0 := ⟨[], OwnP.nil w B, rfl, fun i h => absurd h (by omega)⟩
theorem WS.below {w w' : World} {B n : Nat} {v : Value} {L : Nat → Nat → Nat} (h : WS w B v L n) (hb : Below w.heap.size w w') : WS w' B v L n := by
  obtain ⟨cs, h1, h2, h3⟩ := h
  exact ⟨cs, h1.below hb, h2, fun i hi => by obtain ⟨G, h4, h5⟩ := h3 i hi; exact ⟨G, h4, h5.below hb h5.lt⟩⟩
theorem WS.form {w : World} {B n : Nat} {v : Value} {L : Nat → Nat → Nat} (h : WS w B v L n) (hn : 0 < n) : ∃ g cap, v = .slice (some ⟨g, 0, none⟩) n cap ∧ g < w.heap.size ∧ ∀ i, i < n → ∃ G, w.cell? ⟨g, i, none⟩ = some (.slice (some ⟨G, 0, none⟩) 4 4) ∧ Blk w G 5 (ar 4 (L i)) := by
  obtain ⟨cs, h1, h2, h3⟩ := h
  rcases h1.2 with ⟨rfl, h0⟩ | ⟨g, cap, cur, rfl, hB, hg, hnc, hcm, hcs, ht⟩
  · omega
  · refine ⟨g, cap, by rw [h2], Blk.lt (t := 71) (cs := cur) hg, fun i hi => ?_⟩
    obtain ⟨G, h4, h5⟩ := h3 i hi
    refine ⟨G, ?_, h5⟩
    rw [cell_of_row w g i cur _ _ hg]
    rw [← ht, List.getElem?_take_of_lt (by omega), Array.getElem?_toList] at h4
    exact h4
theorem WS.snoc {w w' : World} {B n G : Nat} {v v' : Value} {L : Nat → Nat → Nat} {cs : List Value} (h1 : OwnP w B v cs) (h2 : cs.length = n) (h3 : ∀ i, i < n → ∃ G, cs[i]? = some (.slice (some ⟨G, 0, none⟩) 4 4) ∧ Blk w G 5 (ar 4 (L i)))
    (hG : Blk w G 5 (ar 4 (L n))) (ho : OwnP w' B v' (cs ++ [.slice (some ⟨G, 0, none⟩) 4 4])) (hg : w.grownBy w' v.ownBlock) : WS w' B v' L (n + 1) := by
  have keep : ∀ {k : Nat} {c : Array Value}, Blk w k 5 c → Blk w' k 5 c := fun {k c} hb => by
    refine hb.apart hg fun e => ?_
    rcases h1.2 with ⟨rfl, _⟩ | ⟨g, cap, cur, rfl, hB, hc, _⟩
    · cases e
    · cases e
      unfold Blk at hb
      rw [hc] at hb
      simp only [Option.some.injEq, Obj.cells.injEq] at hb
      exact absurd hb.2.1 (by decide)
  refine ⟨_, ho, by rw [List.length_append, h2]; rfl, fun i hi => ?_⟩
  by_cases e : i < n
  · obtain ⟨G', h4, h5⟩ := h3 i e
    exact ⟨G', by rw [List.getElem?_append_left (by omega)]; exact h4, keep h5⟩
  · obtain rfl : i = n := by omega
    exact ⟨G, by rw [List.getElem?_append_right (by omega), h2, Nat.sub_self]; rfl, keep hG⟩
end AesP
end Go.Proofs.Ytkcfonlondlmeaa
