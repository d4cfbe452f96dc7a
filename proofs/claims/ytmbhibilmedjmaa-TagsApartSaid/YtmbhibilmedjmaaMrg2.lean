/-
  A region that draws its order, whose values may hang on the order and on what a call makes of the world: of each operation's value one states what it is like (S), what the world then holds of it (D, kept by what the others do: K), and which operations have come up (C).
  Rows of bytes of any type compared; loaded, in regions whose values hang on their order.
  Regions whose values hang on their order: what each operation yields as a list of known values, and slices of known bytes wherever they lie.
  Contracts of the Go library's functions over this translation, laid by the kit's own tool.
  Contract of casematelaw17.awake, over LeafC.
  The walk of TagsJoin, over LeafC and JoinC.
  Messages of tags are alike only where their domains and parts are (plain numbers).
  Contract of casematelaw17.text, over LeafC and RestC.
  A region that draws its order and makes one new variable ('x := f(y)', the call no lone one): its address hangs on the order; all else does not.
  Rows of n bytes loaded in a drawn region that makes a variable.
  Structs and arrays of any cells, loaded and stored whole.
  What comes in, number by number.
  What comes in: rows of n bytes by value.
  Slices of bytes that come in.
  Slices of slices of bytes that come in.
  The walk of TagsApart, over LeafC and RestC; what comes in to it.
-/
import Derived.Test.YtmbhibilmedjmaaMrg1
import Derived.Shelf.Strings.Builder1
import Derived.Shelf.Strings.Builder2
import Derived.Shelf.Strings.BuilderF
import Derived.Shelf.Strings.Prefix
import Derived.Shelf.Bits.Mul64
import Derived.Shelf.Strings.Repeat
import Derived.Test.YtmbhibilmedjmaaProg
import Derived.Deep.Slices
import Derived.OpenShut
import Derived.ChangeMaps5
import Derived.ChangeSlices
set_option linter.unusedVariables false
set_option linter.unusedSimpArgs false
set_option maxRecDepth 100000
namespace Go.Proofs.Ytmbhibilmedjmaa
open Go.RowKit
/-- One operation, carried out in the world w; R holds of what it yields and of the world behind it. -/
def GivesE (P : Program) (o : Oper) (a : Act) (w : World) (R : Value → World → Prop) : Prop :=
  match (execOp a.eval o).run P w with
  | .ok (.value u) w' => R u w'
  | .ok .skip w' => R undef w'
  | .ok (.enter f args) w' => Calls P f args w' fun e w'' => ∃ v, e = .returned v ∧ R v w''
  | _ => False
theorem wp_of_givesE {P : Program} {o : Oper} {a : Act} {w : World} {R : Value → World → Prop} {K : Act → World → Prop} {Q : Exit → Act → World → Prop}
    (h : GivesE P o a w R) (hK : ∀ v w', R v w' → K (a.put o.dst v) w') : o.wp P a w K Q := by
  unfold GivesE at h
  unfold Oper.wp
  generalize (execOp a.eval o).run P w = r at *
  cases r with
  | ok n w' =>
    cases n <;> simp only at h <;> simp only [Oper.upon]
    case value u => exact hK _ _ h
    case skip => exact hK _ _ h
    case enter f args => exact h.mono fun e w'' ⟨v, he, hr⟩ => by subst he; exact hK _ _ hr
  | halt x w' => cases h
theorem givesE_mono {P : Program} {o : Oper} {a : Act} {w : World} {R R' : Value → World → Prop} (h : GivesE P o a w R) (hr : ∀ v w', R v w' → R' v w') : GivesE P o a w R' := by
  unfold GivesE at *
  generalize (execOp a.eval o).run P w = r at *
  cases r with
  | ok n w' =>
    cases n <;> simp only at h ⊢
    case value u => exact hr _ _ h
    case skip => exact hr _ _ h
    case enter f args => exact h.mono fun e w'' ⟨v, he, hR⟩ => ⟨v, he, hr _ _ hR⟩
  | halt x w' => exact h
section
variable {P : Program} {ops : Array Oper}
/-- The head of a region: the first n operations, in whatever order; behind them the tail. -/
theorem head_anyE {Γ : Type} {n g : Nat} {Q : Exit → Act → World → Prop} {vals : Γ → Nat → Value} {C : Γ → Array Bool → World → Prop} {a0 : Act} (ht : tidy ops = true) (hn : n ≤ ops.size)
    (hstep : ∀ k o, k < n → ops[k]? = some o → ∀ γ L w, L.size = ops.size → Closed ops L → k ∈ Region.ready .any ops L → C γ L w →
      ((Region.wanted o (yielded ops (fr ops (vals γ) (fun j => decide (j < k)) ops.size a0).tmps) = true ∧ GivesE P o (fr ops (vals γ) (fun j => decide (j < k)) ops.size a0) w (fun v w' => ∃ γ', (∀ j, L.getD j false = true → vals γ j = vals γ' j) ∧ vals γ' k = v ∧ C γ' (L.setIfInBounds k true) w')) ∨
      (Region.wanted o (yielded ops (fr ops (vals γ) (fun j => decide (j < k)) ops.size a0).tmps) = false ∧ ∃ γ', (∀ j, L.getD j false = true → vals γ j = vals γ' j) ∧ vals γ' k = undef ∧ C γ' (L.setIfInBounds k true) w)))
    (hsink : ∀ L, L.size = ops.size → Closed ops L → (∀ t, n ≤ t → t < ops.size → L.getD t true = false) → ∀ i, i < n → L.getD i true = false → ∀ t ∈ Region.ready .any ops L, t < n)
    (htail : ∀ γ L w, L.size = ops.size → (∀ i, i < n → L.getD i false = true) → (∀ t, n ≤ t → t < ops.size → L.getD t true = false) → C γ L w →
      wpAny P .any ops Q g L (fr ops (vals γ) (fun j => decide (j < n)) ops.size a0) w) :
    ∀ (f : Nat) (γ : Γ) (L : Array Bool) (w : World), L.size = ops.size → Closed ops L → (∀ t, n ≤ t → t < ops.size → L.getD t true = false) → cnt n L = f → C γ L w →
      wpAny P .any ops Q (f + g) L (fr ops (vals γ) (fun j => L.getD j false) ops.size a0) w
  | 0, γ, L, w, hs, hcl, htl, hc, hC => by
    have hall : ∀ i, i < n → L.getD i false = true := fun i hi => by
      have h1 : ∀ j ∈ List.range n, ¬ (!L.getD j true) = true := List.countP_eq_zero.1 hc
      have h2 := h1 i (List.mem_range.2 hi)
      exact getD_up (by omega) (by simpa using h2)
    rw [Nat.zero_add, fr_congr (l' := fun j => decide (j < n)) fun j hj => ?_]
    · exact htail γ L w hs hall htl hC
    · by_cases hjn : j < n
      · rw [hall j hjn]; simp [hjn]
      · rw [getD_both (htl j (by omega) hj)]; simp [hjn]
  | f + 1, γ, L, w, hs, hcl, htl, hc, hC => by
    rw [show f + 1 + g = (f + g) + 1 by omega]
    -- the least that has not come up may come up
    have hex : ∃ i, i < n ∧ L.getD i true = false := by
      have hpos : 0 < (List.range n).countP fun i => !L.getD i true := by unfold cnt at hc; omega
      obtain ⟨i, hi, h1⟩ := List.countP_pos_iff.1 hpos
      exact ⟨i, List.mem_range.1 hi, by simpa using h1⟩
    have hready : ∃ i, i ∈ Region.ready .any ops L := by
      obtain ⟨i, hi, hun⟩ := hex
      induction i using Nat.strongRecOn with
      | _ i ih =>
        by_cases hless : ∃ j, j < i ∧ L.getD j true = false
        · obtain ⟨j, hj, hjun⟩ := hless
          exact ih j hj (by omega) hjun
        · have hio : i < ops.size := by omega
          refine ⟨i, mem_ready.2 ⟨hun, ops[i], Array.getElem?_eq_getElem hio, fun e he hb => ?_⟩⟩
          have hlt := tidy_edge ht (Array.getElem?_eq_getElem hio) e he hb
          refine getD_up (by omega) ?_
          cases h0 : L.getD e.on true with
          | true => rfl
          | false => exact absurd ⟨e.on, hlt, h0⟩ hless
    obtain ⟨i0, hi0, hun0⟩ := hex
    refine ⟨fun h0 => (by obtain ⟨i, hi⟩ := hready; rw [h0] at hi; cases hi), fun i hi => ?_⟩
    have hin : i < n := hsink L hs hcl htl i0 hi0 hun0 i hi
    obtain ⟨hun, o, ho, _⟩ := mem_ready.1 hi
    have hio : i < ops.size := by omega
    obtain ⟨hex1, hex2⟩ := exec_same (vals := vals γ) (n := ops.size) (a := a0) ht ho hcl hi
    have hst := hstep i o hin ho γ L w hs hcl hi hC
    have hnext : ∀ γ' w', (∀ j, L.getD j false = true → vals γ j = vals γ' j) → C γ' (L.setIfInBounds i true) w' → wpAny P .any ops Q (f + g) (L.setIfInBounds i true) ((fr ops (vals γ) (fun j => L.getD j false) ops.size a0).put o.dst (vals γ' i)) w' := fun γ' w' hag hC' => by
      have ih := head_anyE (g := g) (Q := Q) ht hn hstep hsink htail f γ' (L.setIfInBounds i true) w' (by simpa using hs) (closed_set hcl hi) (fun t h1 h2 => by rw [getD_set_ne true (by omega)]; exact htl t h1 h2)
        (by
          have h1 : cnt n (L.setIfInBounds i true) + 1 = cnt n L := by
            refine countP_one (i := i) (by simpa using hun) ?_ (fun j hj => by rw [getD_set_ne true (Ne.symm hj)]) List.nodup_range (List.mem_range.2 hin)
            simp [show i < L.size by omega]
          omega) hC'
      rw [fr_congr (l' := fun j => L.getD j false || j == i) fun j _ => ?_, fr_set ht (getD_both hun) hio, ← fr_vals fun j _ hj => hag j hj] at ih
      · unfold dstAt at ih; rw [ho] at ih; exact ih
      · by_cases e : j = i
        · subst e; simp [show j < L.size by omega]
        · have : (j == i) = false := by simpa using e
          rw [getD_set_ne false (Ne.symm e), this, Bool.or_false]
    unfold wpOp
    simp only [ho]
    rcases hst with ⟨hw, hg⟩ | ⟨hw, γ', hag, hv, hC'⟩
    · rw [hex2, if_pos hw]
      refine .inl (wp_of_givesE (R := fun v w' => ∃ γ', (∀ j, L.getD j false = true → vals γ j = vals γ' j) ∧ vals γ' i = v ∧ C γ' (L.setIfInBounds i true) w') ?_ fun v w' ⟨γ', hag, hv, hC'⟩ => by rw [← hv]; exact hnext γ' w' hag hC')
      unfold GivesE at hg ⊢
      rw [hex1]; exact hg
    · rw [hex2, hw, if_neg (by simp)]
      rw [← hv]
      exact hnext γ' w hag hC'

theorem region_coreE {id : Nat} {Q : Exit → Act → World → Prop} {Γ : Type} {C : Γ → Array Bool → World → Prop} {a : Act} {w : World} {l : List Oper} (n : Nat) (hm : P.follows .mixedOrders = true) (ht : tidy l.toArray = true) (hB : tailB l.toArray n = true)
    (γ0 : Γ) (hC : C γ0 (Array.replicate l.length false) w.drew) (vals : Γ → Nat → Value)
    (hs : ∀ i o, (l.take n)[i]? = some o → ∀ γ L w, L.size = l.length → i ∈ Region.ready .any l.toArray L → C γ L w →
      ((Region.wanted o (yielded l.toArray (lexF (l.take n) (vals γ) i a).tmps) = true ∧ GivesE P o (lexF (l.take n) (vals γ) i a) w (fun v w' => ∃ γ', (∀ j, L.getD j false = true → vals γ j = vals γ' j) ∧ vals γ' i = v ∧ C γ' (L.setIfInBounds i true) w')) ∨
      (Region.wanted o (yielded l.toArray (lexF (l.take n) (vals γ) i a).tmps) = false ∧ ∃ γ', (∀ j, L.getD j false = true → vals γ j = vals γ' j) ∧ vals γ' i = undef ∧ C γ' (L.setIfInBounds i true) w)))
    (hq : ∀ γ L w', (∀ i, i < n → L.getD i false = true) → C γ L w' → wpList P l.toArray Q (l.drop n) (lexF (l.take n) (vals γ) (l.take n).length a) w') : (Code.region id l.toArray true).wp P Q a w := by
  refine wp_region_any hm ?_
  have hn : n ≤ l.toArray.size := by
    simp only [tailB, Bool.or_eq_true, Bool.and_eq_true, decide_eq_true_eq] at hB
    rcases hB with h | h <;> omega
  have hlen : (l.take n).length = n := by rw [List.length_take]; simp at hn; omega
  simp only [hlen] at hq
  have hfr : ∀ (γ : Γ) i, i ≤ n → lexF (l.take n) (vals γ) i a = fr l.toArray (vals γ) (fun j => decide (j < i)) l.toArray.size a := fun γ i hi => by
    have := lexF_fr (ops := l.toArray) (vals := vals γ) (a := a) hn i hi
    simpa using this
  have H := head_anyE (P := P) (ops := l.toArray) (n := n) (g := l.toArray.size - n) (Q := Q) (vals := vals) (C := C) (a0 := a) ht hn
    (fun k o hk ho γ L w' hsz _ hr hC' => by
      have hko : (l.take n)[k]? = some o := by rw [List.getElem?_take_of_lt hk]; simpa using ho
      have := hs k o hko γ L w' (by simpa using hsz) hr hC'
      rwa [hfr γ k (by omega)] at this)
    (fun L hL hcl htl i hi hun t hr => by
      obtain ⟨hunt, o, ho, _⟩ := mem_ready.1 hr
      have hto : t < l.toArray.size := (Array.getElem?_eq_some_iff.1 ho).1
      simp only [tailB, Bool.or_eq_true, Bool.and_eq_true, decide_eq_true_eq] at hB
      rcases hB with hB | ⟨⟨⟨hB1, hB2⟩, hB3⟩, _⟩
      · omega
      · rcases Nat.lt_or_ge t n with h | h
        · exact h
        · exact absurd hr (tail_waits hB2 hB3 hB1 ⟨hL, hcl, htl⟩ _ i rfl hi hun t h))
    (fun γ L w' hL hall htl hC' => by
      rw [← hfr γ n (Nat.le_refl n)]
      have hlist := hq γ L w' hall hC'
      have hLe : L = tailL n (l.toArray.size - n) := by
        apply Array.ext_getElem?
        intro j
        unfold tailL
        rw [show ((List.replicate n true ++ List.replicate (l.toArray.size - n) false).toArray)[j]? = (List.replicate n true ++ List.replicate (l.toArray.size - n) false)[j]? from List.getElem?_toArray .., List.getElem?_append]
        simp only [List.length_replicate]
        by_cases hj : j < n
        · have := hall j hj
          rw [if_pos hj]
          simp [show j < L.size by omega] at this
          simp [hj, show j < L.size by omega, this]
        · rw [if_neg hj]
          by_cases hj2 : j < l.toArray.size
          · have := htl j (by omega) hj2
            simp [show j < L.size by omega] at this
            rw [Array.getElem?_eq_getElem (by omega), this, List.getElem?_replicate, if_pos (by omega)]
          · rw [Array.getElem?_eq_none (by omega), List.getElem?_replicate, if_neg (by omega)]
      simp only [tailB, Bool.or_eq_true, Bool.and_eq_true, decide_eq_true_eq] at hB
      rcases hB with hB | ⟨⟨⟨hB1, hB2⟩, hB3⟩, hB4⟩
      · rw [show l.toArray.size - n = 0 by omega]
        have hd : l.drop n = [] := List.drop_eq_nil_of_le (by simp at hB; omega)
        rw [hd] at hlist
        refine ⟨?_, hlist⟩
        apply List.eq_nil_iff_forall_not_mem.2
        intro t hr
        obtain ⟨hunt, o, ho, _⟩ := mem_ready.1 hr
        have hto : t < l.toArray.size := (Array.getElem?_eq_some_iff.1 ho).1
        have := hall t (by omega)
        rw [getD_both hunt] at this
        cases this
      · have hdl : (l.drop n).length = l.toArray.size - n := by simp
        have := wpAny_of_seq (P := P) (ops := l.toArray) (md := .any) (Q' := Q) (l.drop n) n L _ w' (fun j => by simp [List.getElem?_drop]) (by rw [hdl, hLe]; exact hB4) hlist
        rwa [hdl] at this)
    (cnt n (Array.replicate l.toArray.size false)) γ0 (Array.replicate l.toArray.size false) w.drew (by simp) (fun j o _ hl => by rw [getD_replicate_false] at hl; cases hl)
    (fun t _ hts => getD_in (by simpa using hts) (getD_replicate_false _ _)) rfl (by simpa using hC)
  have hc : cnt n (Array.replicate l.toArray.size false) = n := by
    unfold cnt
    have : ∀ i ∈ List.range n, (!(Array.replicate l.toArray.size false).getD i true) = true := fun i hi => by
      have hi' := List.mem_range.1 hi
      have : i < l.length := by simp at hn; omega
      simp [this]
    rw [List.countP_eq_length.2 this, List.length_range]
  rw [hc, show n + (l.toArray.size - n) = l.toArray.size by omega] at H
  have hz : fr l.toArray (vals γ0) (fun j => (Array.replicate l.toArray.size false).getD j false) l.toArray.size a = a := by
    rw [fr_congr (l' := fun j => decide (j < 0)) fun j _ => by rw [getD_replicate_false]; simp]
    have := fr_stop (ops := l.toArray) (vals := vals γ0) (k := 0) l.toArray.size a
    rw [Nat.zero_add] at this
    exact this
  rw [hz] at H
  exact H

/-- The operations in the order of the text, the k-th first. -/
def wpE (P : Program) (ops : Array Oper) (S : Nat → Value → Prop) (D : Nat → (Nat → Value) → World → Prop) (K : Nat → (Nat → Value) → World → World → Prop) (C : (Nat → Bool) → World → Prop) (Q : (Nat → Value) → Act → Prop) : Nat → (Nat → Value) → List Oper → Act → Prop
  | _, vs, [], a => Q vs a
  | k, vs, o :: rest, a => ((Region.wanted o (yielded ops a.tmps) = true ∧ ∀ d w, d k = false → C d w → (∀ j, Region.waitsFor .any ops k j = true → D j vs w) →
      GivesE P o a w fun v w' => S k v ∧ C (upB d k) w' ∧ K k vs w w' ∧ D k (updV vs k v) w') ∨
      (Region.wanted o (yielded ops a.tmps) = false ∧ S k undef ∧ (∀ d w, C d w → C (upB d k) w) ∧ ∀ w, D k (updV vs k undef) w)) ∧ (S k (vs k) → wpE P ops S D K C Q (k + 1) vs rest (a.put o.dst (vs k)))
theorem wpE_at {S : Nat → Value → Prop} {D : Nat → (Nat → Value) → World → Prop} {K : Nat → (Nat → Value) → World → World → Prop} {C : (Nat → Bool) → World → Prop} {Qk : (Nat → Value) → Act → Prop} {vs : Nat → Value} (hS : ∀ j, S j (vs j)) : ∀ (l : List Oper) (k : Nat) (a : Act), wpE P ops S D K C Qk k vs l a →
    Qk vs (lexF l (fun i => vs (k + i)) l.length a) ∧ ∀ i o, l[i]? = some o →
      ((Region.wanted o (yielded ops (lexF l (fun i => vs (k + i)) i a).tmps) = true ∧ ∀ d w, d (k + i) = false → C d w → (∀ j, Region.waitsFor .any ops (k + i) j = true → D j vs w) →
        GivesE P o (lexF l (fun i => vs (k + i)) i a) w fun v w' => S (k + i) v ∧ C (upB d (k + i)) w' ∧ K (k + i) vs w w' ∧ D (k + i) (updV vs (k + i) v) w') ∨
      (Region.wanted o (yielded ops (lexF l (fun i => vs (k + i)) i a).tmps) = false ∧ S (k + i) undef ∧ (∀ d w, C d w → C (upB d (k + i)) w) ∧ ∀ w, D (k + i) (updV vs (k + i) undef) w))
  | [], k, a, h => ⟨h, fun i o hi => by simp at hi⟩
  | o :: l, k, a, h => by
    obtain ⟨h1, h2⟩ := h
    obtain ⟨hq, hs⟩ := wpE_at hS l (k + 1) _ (h2 (hS k))
    have e : (fun i => vs (k + 1 + i)) = fun i => vs (k + (i + 1)) := funext fun i => by rw [show k + 1 + i = k + (i + 1) by omega]
    rw [e] at hq hs
    refine ⟨?_, fun i o' hi => ?_⟩
    · rw [List.length_cons, lexF_cons]; exact hq
    · cases i with
      | zero =>
        simp only [List.getElem?_cons_zero, Option.some.injEq] at hi
        subst hi
        exact h1
      | succ i =>
        rw [lexF_cons, show k + (i + 1) = k + 1 + i by omega]
        exact hs i o' (by simpa using hi)
theorem wp_region_ex {id : Nat} {Q : Exit → Act → World → Prop} {C : (Nat → Bool) → World → Prop} {S : Nat → Value → Prop} {D : Nat → (Nat → Value) → World → Prop} {K : Nat → (Nat → Value) → World → World → Prop} {a : Act} {w : World} {l : List Oper} (n : Nat)
    (hm : P.follows .mixedOrders = true) (ht : tidy l.toArray = true) (hB : tailB l.toArray n = true)
    (v0 : Nat → Value) (h0 : ∀ j, S j (v0 j)) (hD : ∀ i j vs w w', i < n → j ≠ i → Region.waitsFor .any l.toArray j i = false → D j vs w → K i vs w w' → D j vs w')
    (hL : ∀ j i vs v w, j ≠ i → Region.waitsFor .any l.toArray j i = false → D j vs w → D j (updV vs i v) w)
    (hC : C (fun _ => false) w.drew)
    (h : ∀ vs : Nat → Value, wpE P l.toArray S D K C (fun vs a' => ∀ d w', (∀ k, k < n → d k = true) → C d w' → (∀ k, k < n → D k vs w') → wpList P l.toArray Q (l.drop n) a' w') 0 vs (l.take n) a) : (Code.region id l.toArray true).wp P Q a w := by
  refine region_coreE (Γ := {vs : Nat → Value // ∀ j, S j (vs j)}) (C := fun γ L w' => C (fun j => L.getD j false) w' ∧ Closed l.toArray L ∧ ∀ k, k < n → L.getD k false = true → D k γ.1 w') n hm ht hB ⟨v0, h0⟩
    ⟨by rw [show (fun j => (Array.replicate l.length false).getD j false) = fun _ => false from funext fun j => getD_replicate_false _ j]; exact hC, (fun j o _ hl => by rw [getD_replicate_false] at hl; cases hl), fun k _ hk => by rw [getD_replicate_false] at hk; cases hk⟩ (fun γ => γ.1) ?_ ?_
  · intro i o hi γ L w' hsz hr ⟨hC', hcl, hDs⟩
    have hin : i < n := by
      have := (List.getElem?_eq_some_iff.1 hi).1
      rw [List.length_take] at this; omega
    have hun := getD_both (mem_ready.1 hr).1
    have hlt : i < L.size := by
      obtain ⟨o', ho', _⟩ := (mem_ready.1 hr).2
      have := (Array.getElem?_eq_some_iff.1 ho').1
      simp at this; omega
    have hup : (fun j => (L.setIfInBounds i true).getD j false) = upB (fun j => L.getD j false) i := funext fun j => by
      unfold upB
      by_cases e : j = i
      · subst e; rw [if_pos rfl]; simp [hlt]
      · rw [if_neg e, getD_set_ne false (Ne.symm e)]
    have hcl2 := closed_set hcl hr
    have key := (wpE_at γ.2 (l.take n) 0 a (h γ.1)).2 i o hi
    simp only [Nat.zero_add] at key
    have hwait : ∀ j, Region.waitsFor .any l.toArray i j = true → D j γ.1 w' := fun j hj => by
      have h1 := waits_ready hr hj
      have hji : j < i := by
        obtain ⟨o2, ho2, e2, he2, hb2, hon⟩ := Region.waitsFor_spec hj
        have := tidy_edge ht ho2 e2 he2 hb2
        omega
      exact hDs j (by omega) h1
    have step : ∀ (v : Value) (w2 : World), C (upB (fun j => L.getD j false) i) w2 → (w2 = w' ∨ K i γ.1 w' w2) → D i (updV γ.1 i v) w2 →
        C (fun j => (L.setIfInBounds i true).getD j false) w2 ∧ Closed l.toArray (L.setIfInBounds i true) ∧ ∀ k, k < n → (L.setIfInBounds i true).getD k false = true → D k (updV γ.1 i v) w2 := fun v w2 hc hb hd => by
      refine ⟨by rw [hup]; exact hc, hcl2, fun k hk hL' => ?_⟩
      by_cases e : k = i
      · subst e; exact hd
      · rw [getD_set_ne false (Ne.symm e)] at hL'
        have hw : Region.waitsFor .any l.toArray k i = false := by
          cases hx : Region.waitsFor .any l.toArray k i with
          | false => rfl
          | true =>
            have := waits_closed hcl hL' hx
            rw [hun] at this
            cases this
        refine hL k i _ v _ e hw ?_
        rcases hb with rfl | hb
        · exact hDs k hk hL'
        · exact hD i k _ _ _ hin e hw (hDs k hk hL') hb
    have upd : ∀ v, S i v → ∀ j, S j (updV γ.1 i v j) := fun v hv j => by
      by_cases e : j = i
      · subst e; rw [updV_self]; exact hv
      · rw [updV_ne _ _ e]; exact γ.2 j
    have keep : ∀ v j, L.getD j false = true → γ.1 j = updV γ.1 i v j := fun v j hj => by
      have : j ≠ i := fun e => by subst e; rw [hun] at hj; cases hj
      rw [updV_ne _ _ this]
    rcases key with ⟨k1, k2⟩ | ⟨k1, k2, k3, k4⟩
    · refine .inl ⟨k1, givesE_mono (k2 _ w' hun hC' hwait) fun v w2 ⟨h1, h2, h3, h4⟩ => ⟨⟨updV γ.1 i v, upd v h1⟩, keep v, updV_self _ _ _, step v w2 h2 (.inr h3) h4⟩⟩
    · exact .inr ⟨k1, ⟨updV γ.1 i undef, upd undef k2⟩, keep undef, updV_self _ _ _, step undef w' (k3 _ _ hC') (.inl rfl) (k4 w')⟩
  · intro γ L w' hall ⟨hC', _, hDs⟩
    have key := (wpE_at γ.2 (l.take n) 0 a (h γ.1)).1
    have ez : (fun i => γ.1 (0 + i)) = γ.1 := funext fun i => by rw [Nat.zero_add]
    rw [ez] at key
    exact key _ w' hall hC' fun k hk => hDs k hk (hall k hk)
end
end Go.Proofs.Ytmbhibilmedjmaa
set_option maxRecDepth 100000
namespace Go.Proofs.Ytmbhibilmedjmaa
open Go.ChangeShapes Go.WideShapes Go.ChangeAt Go.RowKit
attribute [local go_sem] Gives GivesE
theorem gE_ldA {a : Act} {w : World} {dst : Option Tmp} {ty : TypeId} {pos : String} {after : Array Edge} {x : Operand} {g o n : Nat} {f : Nat → Nat} {T : TypeId} {gd : Option (Nat × Bool)} {R : Value → World → Prop} (hT : ArT T n) (hx : a.eval x = .pointer (some ⟨g, o, none⟩)) (hb : w.rangeAt g o (ar n f).toList) (hR : R (.agg (ar n f)) w) : GivesE Try.prog ⟨dst, .load T x, ty, pos, after, gd⟩ a w R := by
  unfold GivesE
  simp only [execOp, hx, Sem.run_bind, run_ldm hT hb, Result.andThen_ok, Sem.run_pure]
  exact hR
section
variable {a : Act} {w : World} {dst : Option Tmp} {ty r : TypeId} {pos : String} {after : Array Edge} {x y : Operand} {f g : Nat → Nat} {gd : Option (Nat × Bool)} {R : Value → World → Prop} {T : TypeId} {n : Nat}
theorem exec_eqU (hT : Try.prog.underlying T = some (.array n 5)) (hg : Try.prog.eqGuardType Try.prog.depth T = false) (hx : a.eval x = .agg (ar n f)) (hy : a.eval y = .agg (ar n g)) : (execOp a.eval ⟨dst, .binOp .eql T x y r, ty, pos, after, gd⟩).run Try.prog w = .ok (.value (.bool (eqA n f g))) w := by
  have h1 : (eqGuard .eql T x y (.agg (ar n f)) (.agg (ar n g))).run Try.prog w = .ok () w := by
    simp [eqGuard, hg, go_sem]
  simp only [execOp, hx, hy, Sem.run_bind, h1, run_eql_ar hT, Result.andThen_ok, Sem.run_pure]
theorem gE_eqU (hT : Try.prog.underlying T = some (.array n 5)) (hg : Try.prog.eqGuardType Try.prog.depth T = false) (hx : a.eval x = .agg (ar n f)) (hy : a.eval y = .agg (ar n g)) (hR : R (.bool (eqA n f g)) w) : GivesE Try.prog ⟨dst, .binOp .eql T x y r, ty, pos, after, gd⟩ a w R := by
  unfold GivesE
  rw [exec_eqU hT hg hx hy]
  exact hR
end
section
variable {ops : Array Oper} {a : Act} {rest : List Oper} {dst : Option Tmp} {ty r : TypeId} {pos : String} {after : Array Edge} {x y : Operand} {f g : Nat → Nat} {gd : Option (Nat × Bool)} {C : World → Prop} {Qk : Act → Prop} {T : TypeId} {n : Nat}
theorem keqU (b : Bool) (hT : Try.prog.underlying T = some (.array n 5)) (hg : Try.prog.eqGuardType Try.prog.depth T = false) (hwt : Region.wanted ⟨dst, .binOp .eql T x y r, ty, pos, after, gd⟩ (yielded ops a.tmps) = true) (hx : a.eval x = .agg (ar n f)) (hy : a.eval y = .agg (ar n g)) (hb : eqA n f g = b)
    (h : wpK Try.prog ops C Qk rest (a.put dst (.bool b))) : wpK Try.prog ops C Qk (⟨dst, .binOp .eql T x y r, ty, pos, after, gd⟩ :: rest) a :=
  wpK_val hwt (fun w hw => gives_value (w' := w) (by rw [exec_eqU hT hg hx hy, hb]) hw) h
theorem kneU (b : Bool) (hT : Try.prog.underlying T = some (.array n 5)) (hg : Try.prog.eqGuardType Try.prog.depth T = false) (hwt : Region.wanted ⟨dst, .binOp .neq T x y r, ty, pos, after, gd⟩ (yielded ops a.tmps) = true) (hx : a.eval x = .agg (ar n f)) (hy : a.eval y = .agg (ar n g)) (hb : (!eqA n f g) = b)
    (h : wpK Try.prog ops C Qk rest (a.put dst (.bool b))) : wpK Try.prog ops C Qk (⟨dst, .binOp .neq T x y r, ty, pos, after, gd⟩ :: rest) a :=
  wpK_val hwt (fun w hw => gives_value (w' := w) (by
    have h1 : (eqGuard .neq T x y (.agg (ar n f)) (.agg (ar n g))).run Try.prog w = .ok () w := by
      simp [eqGuard, hg, go_sem]
    simp only [execOp, hx, hy, Sem.run_bind, h1, run_neq_ar hT, Result.andThen_ok, Sem.run_pure, hb]) hw) h
/-- A literal of one constant part, in such a region. -/
theorem kbldOne {i : Nat} {v : Value} {cs : Array Value} (hwt : Region.wanted ⟨dst, .build T #[(i, .const v)], ty, pos, after, gd⟩ (yielded ops a.tmps) = true) (hb : ∀ w, (Instr.build T #[(i, v)]).run Try.prog w = .ok (.agg cs) w)
    (h : wpK Try.prog ops C Qk rest (a.put dst (.agg cs))) : wpK Try.prog ops C Qk (⟨dst, .build T #[(i, .const v)], ty, pos, after, gd⟩ :: rest) a :=
  wpK_val hwt (fun w hw => gives_value (w' := w) (by
    have e : (#[(i, Operand.const v)] : Array (Nat × Operand)).map (fun (i, x) => (i, a.eval x)) = #[(i, v)] := by simp only [List.map_toArray, List.map_cons, List.map_nil]; rfl
    simp only [execOp, Sem.run_bind, e, hb, Result.andThen_ok, Sem.run_pure]) hw) h
/-- A literal of no part. -/
theorem kbldZ {cs : Array Value} (hwt : Region.wanted ⟨dst, .build T #[], ty, pos, after, gd⟩ (yielded ops a.tmps) = true) (hb : ∀ w, (Instr.build T #[]).run Try.prog w = .ok (.agg cs) w)
    (h : wpK Try.prog ops C Qk rest (a.put dst (.agg cs))) : wpK Try.prog ops C Qk (⟨dst, .build T #[], ty, pos, after, gd⟩ :: rest) a :=
  wpK_val hwt (fun w hw => gives_value (w' := w) (by
    have e : (#[] : Array (Nat × Operand)).map (fun (i, x) => (i, a.eval x)) = #[] := by simp
    simp only [execOp, Sem.run_bind, e, hb, Result.andThen_ok, Sem.run_pure]) hw) h
end
namespace DvP
end DvP
end Go.Proofs.Ytmbhibilmedjmaa
set_option maxRecDepth 100000
namespace Go.Proofs.Ytmbhibilmedjmaa
open Go.ChangeShapes Go.WideShapes Go.ChangeAt Go.RowKit
attribute [local go_sem] GivesE
/-- The bytes of the slice that operation j yields. -/
def slOf : List (Nat × List Nat) → Nat → Option (List Nat)
  | [], _ => none
  | (p, l) :: r, j => if j = p then some l else slOf r j
def eS (fx : List (Option Value)) (sl : List (Nat × List Nat)) (j : Nat) (v : Value) : Prop := match slOf sl j with
  | some l => ∃ (A : Option Addr) (c : Nat), v = .slice A l.length c
  | none => match fx[j]? with
    | some (some u) => v = u
    | _ => True
def eV (fx : List (Option Value)) (sl : List (Nat × List Nat)) (j : Nat) : Value := match slOf sl j with
  | some l => .slice none l.length 0
  | none => match fx[j]? with
    | some (some u) => u
    | _ => undef
theorem eS_ok (fx : List (Option Value)) (sl : List (Nat × List Nat)) (j : Nat) : eS fx sl j (eV fx sl j) := by
  unfold eS eV
  split
  · exact ⟨none, 0, rfl⟩
  · split
    · rfl
    · trivial
def eD (sl : List (Nat × List Nat)) (j : Nat) (vs : Nat → Value) (w : World) : Prop := ∀ l, slOf sl j = some l → ∃ A c, vs j = .slice A l.length c ∧ Arg w A l l.length c
section
variable {sl : List (Nat × List Nat)} {i j : Nat} {vs : Nat → Value} {v : Value} {w w' : World}
theorem eD_below (h : eD sl j vs w) (hb : Below w.heap.size w w') : eD sl j vs w' := fun l e => by obtain ⟨A, c, h1, h2⟩ := h l e; exact ⟨A, c, h1, h2.on hb⟩
theorem eD_loc (hji : j ≠ i) (h : eD sl j vs w) : eD sl j (updV vs i v) w := by
  unfold eD at h ⊢
  rw [updV_ne _ _ hji]
  exact h
theorem eD_none (h : slOf sl j = none) : eD sl j vs w := fun l e => by rw [h] at e; cases e
theorem eD_some {l : List Nat} {A : Option Addr} {c : Nat} (h : slOf sl j = some l) (ha : Arg w A l l.length c) : eD sl j (updV vs j (.slice A l.length c)) w := fun m e => by
  obtain rfl : l = m := Option.some.inj (h.symm.trans e)
  exact ⟨A, c, updV_self _ _ _, ha⟩
end
/-- A slice of the call's own, as a call's answer in such a region. -/
theorem own_sl {w' : World} {B : Nat} {v : Value} {l : List Nat} (ho : Own 5 .u8 w' B v l) (h2 : B256 l) : ∃ (A : Option Addr) (c : Nat), v = .slice A l.length c := by
  obtain ⟨A, c, rfl, ha⟩ := ho.arg h2
  exact ⟨A, c, rfl⟩
theorem own_eD {sl : List (Nat × List Nat)} {j : Nat} {vs : Nat → Value} {w' : World} {B : Nat} {v : Value} {l : List Nat} (h : slOf sl j = some l) (ho : Own 5 .u8 w' B v l) (h2 : B256 l) : eD sl j (updV vs j v) w' := by
  obtain ⟨A, c, rfl, ha⟩ := ho.arg h2
  exact eD_some h ha
theorem wp_region_eS {id : Nat} {Q : Exit → Act → World → Prop} {a : Act} {w : World} {l : List Oper} (fx : List (Option Value)) (sl : List (Nat × List Nat)) (n : Nat) (hm : Try.prog.follows .mixedOrders = true) (ht : tidy l.toArray = true) (hB : tailB l.toArray n = true)
    (h : ∀ vs : Nat → Value, wpE Try.prog l.toArray (eS fx sl) (eD sl) (fun _ _ w w' => Below w.heap.size w w') (fun _ w' => Below w.heap.size w w') (fun vs a' => ∀ (d : Nat → Bool) w', (∀ k, k < n → d k = true) → Below w.heap.size w w' → (∀ k, k < n → eD sl k vs w') → wpList Try.prog l.toArray Q (l.drop n) a' w') 0 vs (l.take n) a) :
    (Code.region id l.toArray true).wp Try.prog Q a w :=
  wp_region_ex (S := eS fx sl) (D := eD sl) (K := fun _ _ w w' => Below w.heap.size w w') (C := fun _ w' => Below w.heap.size w w') n hm ht hB _ (eS_ok _ _) (fun i j vs w w' _ _ _ h hb => eD_below h hb) (fun j i vs v w hji _ h => eD_loc hji h) (Below.refl _ _).drew h
end Go.Proofs.Ytmbhibilmedjmaa
namespace Go.Proofs
open Go.Shelf
def Try.lays170_ren : Go.Shelf.Ren := ⟨fun | 170 => 20 | n => n, fun | 70 => 44 | 3 => 3 | 0 => 0 | 72 => 46 | 37 => 24 | 5 => 5 | n => n, fun | n => n⟩
theorem Try.lays170 : Go.Proofs.Lays.n170 Try.prog Try.lays170_ren := {
  mixed := by kernel_rfl
  f170 := Try.func20.trans (congrArg some (by kernel_rfl))
  t0 := Try.underlying0
  a0 := Try.isAgg0
  z0 := Try.sizeOf0
  v0 := Try.zeroValue0
  t3 := Try.underlying3
  a3 := Try.isAgg3
  z3 := Try.sizeOf3
  v3 := Try.zeroValue3
  t37 := Try.underlying24
  a37 := Try.isAgg24
  z37 := Try.sizeOf24
  v37 := Try.zeroValue24
  t70 := Try.underlying44
  a70 := Try.isAgg44
  z70 := Try.sizeOf44
  v70 := Try.zeroValue44
  t72 := Try.underlying46
  a72 := Try.isAgg46
  z72 := Try.sizeOf46
  v72 := Try.zeroValue46 }
open Go.RowKit in
theorem Try.Builder_Len (B b : Nat) (bs : List Value) (w : World) (h : Lib.IsBuilder 46 5 B b bs w) :
    Calls Try.prog 20 #[.pointer (some ⟨b, 0, none⟩)] w fun e w' => e = .returned (.int .i64 bs.length) ∧ w' = w := Any.Builder_Len Try.lays170 B b bs w h
def Try.lays169_ren : Go.Shelf.Ren := ⟨fun | 169 => 21 | n => n, fun | 70 => 44 | 9 => 9 | 0 => 0 | 72 => 46 | 37 => 24 | 127 => 62 | 3 => 3 | 5 => 5 | n => n, fun | n => n⟩
theorem Try.lays169 : Go.Proofs.Lays.n169 Try.prog Try.lays169_ren := {
  mixed := by kernel_rfl
  f169 := Try.func21.trans (congrArg some (by kernel_rfl))
  t0 := Try.underlying0
  a0 := Try.isAgg0
  z0 := Try.sizeOf0
  v0 := Try.zeroValue0
  t3 := Try.underlying3
  a3 := Try.isAgg3
  z3 := Try.sizeOf3
  v3 := Try.zeroValue3
  t9 := Try.underlying9
  a9 := Try.isAgg9
  z9 := Try.sizeOf9
  v9 := Try.zeroValue9
  t37 := Try.underlying24
  a37 := Try.isAgg24
  z37 := Try.sizeOf24
  v37 := Try.zeroValue24
  t70 := Try.underlying44
  a70 := Try.isAgg44
  z70 := Try.sizeOf44
  v70 := Try.zeroValue44
  t72 := Try.underlying46
  a72 := Try.isAgg46
  z72 := Try.sizeOf46
  v72 := Try.zeroValue46
  t127 := Try.underlying62
  a127 := Try.isAgg62
  z127 := Try.sizeOf62
  v127 := Try.zeroValue62 }
theorem Try.Builder_Extra_169 : Builder.Extra Try.prog Try.lays169_ren := {
  sizeBuilder := by kernel_rfl
  liesBuilder := by kernel_rfl
  t5 := Try.underlying5
  a5 := Try.isAgg5
  z5 := Try.sizeOf5
  v5 := Try.zeroValue5
  infoByte := by kernel_rfl
  cellsByte := by kernel_rfl
  sizeByte := by kernel_rfl
  neB5 := by decide }
open Go.RowKit in
theorem Try.Builder_String (B b : Nat) (l : List UInt8) (w : World) (h : Lib.IsBuilder 46 5 B b (Lib.byteCells l) w) (h0 : l ≠ []) :
    Calls Try.prog 21 #[.pointer (some ⟨b, 0, none⟩)] w fun e w' => e = .returned (.string ⟨l.toArray⟩) ∧ Below B w w' := Any.Builder_String Try.lays169 Try.Builder_Extra_169 B b l w h h0
open Go.RowKit in
theorem Try.Builder_String_empty (B b : Nat) (w : World) (h : Lib.IsBuilder 46 5 B b [] w) (hBw : B ≤ w.heap.size) :
    Calls Try.prog 21 #[.pointer (some ⟨b, 0, none⟩)] w fun e w' => e = .returned (.string ⟨#[]⟩) ∧ Below B w w' := Any.Builder_String_empty Try.lays169 Try.Builder_Extra_169 B b w h hBw
open Go.RowKit in
theorem Try.Builder_String_any (B b : Nat) (l : List UInt8) (w : World) (h : Lib.IsBuilder 46 5 B b (Lib.byteCells l) w) (hBw : B ≤ w.heap.size) :
    Calls Try.prog 21 #[.pointer (some ⟨b, 0, none⟩)] w fun e w' => e = .returned (.string ⟨l.toArray⟩) ∧ Below B w w' := Any.Builder_String_any Try.lays169 Try.Builder_Extra_169 B b l w h hBw
def Try.lays241_ren : Go.Shelf.Ren := ⟨fun | 241 => 27 | 277 => 30 | n => n, fun | 70 => 44 | 3 => 3 | 0 => 0 | 72 => 46 | 37 => 24 | 5 => 5 | n => n, fun | n => n⟩
theorem Try.lays241 : Go.Proofs.Lays.n241 Try.prog Try.lays241_ren := {
  mixed := by kernel_rfl
  f241 := Try.func27.trans (congrArg some (by kernel_rfl))
  f277 := Try.func30.trans (congrArg some (by kernel_rfl))
  t0 := Try.underlying0
  a0 := Try.isAgg0
  z0 := Try.sizeOf0
  v0 := Try.zeroValue0
  t3 := Try.underlying3
  a3 := Try.isAgg3
  z3 := Try.sizeOf3
  v3 := Try.zeroValue3
  t37 := Try.underlying24
  a37 := Try.isAgg24
  z37 := Try.sizeOf24
  v37 := Try.zeroValue24
  t70 := Try.underlying44
  a70 := Try.isAgg44
  z70 := Try.sizeOf44
  v70 := Try.zeroValue44
  t72 := Try.underlying46
  a72 := Try.isAgg46
  z72 := Try.sizeOf46
  v72 := Try.zeroValue46 }
theorem Try.Builder_Extra_241 : Builder.Extra Try.prog Try.lays241_ren := {
  sizeBuilder := by kernel_rfl
  liesBuilder := by kernel_rfl
  t5 := Try.underlying5
  a5 := Try.isAgg5
  z5 := Try.sizeOf5
  v5 := Try.zeroValue5
  infoByte := by kernel_rfl
  cellsByte := by kernel_rfl
  sizeByte := by kernel_rfl
  neB5 := by decide }
open Go.RowKit in
theorem Try.Builder_grow_fresh (B b n : Nat) (w : World) (hB : B ≤ b) (hbk : w.heap[b]? = some (.cells #[.pointer (some ⟨b, 0, none⟩), .slice none 0 0] 46 (0, 0))) (hBw : B ≤ w.heap.size) (hn : n ≤ 281474976710656) :
    Calls Try.prog 27 #[.pointer (some ⟨b, 0, none⟩), .int .i64 n] w fun e w' => e = .returned (.tuple #[]) ∧ (Lib.BuilderAt 46 5 B b (.pointer (some ⟨b, 0, none⟩)) [] w' ∧ Below B w w') := Any.Builder_grow_fresh Try.lays241 Try.Builder_Extra_241 B b n w hB hbk hBw hn
def Try.lays165_ren : Go.Shelf.Ren := ⟨fun | 165 => 18 | 240 => 26 | 241 => 27 | 276 => 29 | 277 => 30 | n => n, fun | 70 => 44 | 3 => 3 | 0 => 0 | 4 => 4 | 9 => 9 | 20 => 20 | 72 => 46 | 37 => 24 | 164 => 67 | 5 => 5 | n => n, fun | n => n⟩
theorem Try.lays165 : Go.Proofs.Lays.n165 Try.prog Try.lays165_ren := {
  mixed := by kernel_rfl
  f165 := Try.func18.trans (congrArg some (by kernel_rfl))
  f240 := Try.func26.trans (congrArg some (by kernel_rfl))
  f241 := Try.func27.trans (congrArg some (by kernel_rfl))
  f276 := Try.func29.trans (congrArg some (by kernel_rfl))
  f277 := Try.func30.trans (congrArg some (by kernel_rfl))
  t0 := Try.underlying0
  a0 := Try.isAgg0
  z0 := Try.sizeOf0
  v0 := Try.zeroValue0
  t3 := Try.underlying3
  a3 := Try.isAgg3
  z3 := Try.sizeOf3
  v3 := Try.zeroValue3
  t4 := Try.underlying4
  a4 := Try.isAgg4
  z4 := Try.sizeOf4
  v4 := Try.zeroValue4
  t9 := Try.underlying9
  a9 := Try.isAgg9
  z9 := Try.sizeOf9
  v9 := Try.zeroValue9
  t20 := Try.underlying20
  a20 := Try.isAgg20
  z20 := Try.sizeOf20
  v20 := Try.zeroValue20
  t37 := Try.underlying24
  a37 := Try.isAgg24
  z37 := Try.sizeOf24
  v37 := Try.zeroValue24
  t70 := Try.underlying44
  a70 := Try.isAgg44
  z70 := Try.sizeOf44
  v70 := Try.zeroValue44
  t72 := Try.underlying46
  a72 := Try.isAgg46
  z72 := Try.sizeOf46
  v72 := Try.zeroValue46
  t164 := Try.underlying67
  a164 := Try.isAgg67
  z164 := Try.sizeOf67
  v164 := Try.zeroValue67 }
theorem Try.Builder_Extra_165 : Builder.Extra Try.prog Try.lays165_ren := {
  sizeBuilder := by kernel_rfl
  liesBuilder := by kernel_rfl
  t5 := Try.underlying5
  a5 := Try.isAgg5
  z5 := Try.sizeOf5
  v5 := Try.zeroValue5
  infoByte := by kernel_rfl
  cellsByte := by kernel_rfl
  sizeByte := by kernel_rfl
  neB5 := by decide }
open Go.RowKit in
theorem Try.Builder_Grow_fresh (B b n : Nat) (w : World) (hB : B ≤ b) (hbk : w.heap[b]? = some (.cells #[.pointer none, .slice none 0 0] 46 (0, 0))) (hBw : B ≤ w.heap.size) (hn : n ≤ 281474976710656) :
    Calls Try.prog 18 #[.pointer (some ⟨b, 0, none⟩), .int .i64 n] w fun e w' => e = .returned (.tuple #[]) ∧ (Lib.BuilderAt 46 5 B b (.pointer (some ⟨b, 0, none⟩)) [] w' ∧ Below B w w') := Any.Builder_Grow_fresh Try.lays165 Try.Builder_Extra_165 B b n w hB hbk hBw hn
open Go.RowKit in
theorem Try.Builder_Len_f (B b : Nat) (bs : List Value) (w : World) (h : Lib.IsBuilderF 46 5 B b bs w) :
    Calls Try.prog 20 #[.pointer (some ⟨b, 0, none⟩)] w fun e w' => e = .returned (.int .i64 bs.length) ∧ w' = w := Any.Builder_Len_f Try.lays170 B b bs w h
open Go.RowKit in
theorem Try.Builder_String_f (B b : Nat) (l : List UInt8) (w : World) (h : Lib.IsBuilderF 46 5 B b (Lib.byteCells l) w) (h0 : l ≠ []) :
    Calls Try.prog 21 #[.pointer (some ⟨b, 0, none⟩)] w fun e w' => e = .returned (.string ⟨l.toArray⟩) ∧ (Lib.IsBuilderF 46 5 B b (Lib.byteCells l) w' ∧ Below B w w') := Any.Builder_String_f Try.lays169 Try.Builder_Extra_169 B b l w h h0
open Go.RowKit in
theorem Try.Builder_String_empty_f (B b : Nat) (w : World) (h : Lib.IsBuilderF 46 5 B b [] w) (hBw : B ≤ w.heap.size) :
    Calls Try.prog 21 #[.pointer (some ⟨b, 0, none⟩)] w fun e w' => e = .returned (.string ⟨#[]⟩) ∧ (Lib.IsBuilderF 46 5 B b [] w' ∧ Below B w w') := Any.Builder_String_empty_f Try.lays169 Try.Builder_Extra_169 B b w h hBw
open Go.RowKit in
theorem Try.Builder_String_any_f (B b : Nat) (l : List UInt8) (w : World) (h : Lib.IsBuilderF 46 5 B b (Lib.byteCells l) w) (hBw : B ≤ w.heap.size) :
    Calls Try.prog 21 #[.pointer (some ⟨b, 0, none⟩)] w fun e w' => e = .returned (.string ⟨l.toArray⟩) ∧ (Lib.IsBuilderF 46 5 B b (Lib.byteCells l) w' ∧ Below B w w') := Any.Builder_String_any_f Try.lays169 Try.Builder_Extra_169 B b l w h hBw
def Try.lays206_ren : Go.Shelf.Ren := ⟨fun | 206 => 25 | n => n, fun | 9 => 9 | 4 => 4 | 3 => 3 | n => n, fun | n => n⟩
theorem Try.lays206 : Go.Proofs.Lays.n206 Try.prog Try.lays206_ren := {
  mixed := by kernel_rfl
  f206 := Try.func25.trans (congrArg some (by kernel_rfl))
  t3 := Try.underlying3
  a3 := Try.isAgg3
  z3 := Try.sizeOf3
  v3 := Try.zeroValue3
  t4 := Try.underlying4
  a4 := Try.isAgg4
  z4 := Try.sizeOf4
  v4 := Try.zeroValue4
  t9 := Try.underlying9
  a9 := Try.isAgg9
  z9 := Try.sizeOf9
  v9 := Try.zeroValue9 }
open Go.RowKit Go.Lib in
theorem Try.stringslite_HasPrefix (s p : ByteArray) (w : World) :
    Calls Try.prog 25 #[.string s, .string p] w fun e w' => e = .returned (.bool (Lib.hasPrefix s.data.toList p.data.toList)) ∧ w' = w := Any.stringslite_HasPrefix Try.lays206 s p w
def Try.lays99_ren : Go.Shelf.Ren := ⟨fun | 99 => 17 | 206 => 25 | n => n, fun | 9 => 9 | 4 => 4 | 3 => 3 | n => n, fun | n => n⟩
theorem Try.lays99 : Go.Proofs.Lays.n99 Try.prog Try.lays99_ren := {
  mixed := by kernel_rfl
  f99 := Try.func17.trans (congrArg some (by kernel_rfl))
  f206 := Try.func25.trans (congrArg some (by kernel_rfl))
  t3 := Try.underlying3
  a3 := Try.isAgg3
  z3 := Try.sizeOf3
  v3 := Try.zeroValue3
  t4 := Try.underlying4
  a4 := Try.isAgg4
  z4 := Try.sizeOf4
  v4 := Try.zeroValue4
  t9 := Try.underlying9
  a9 := Try.isAgg9
  z9 := Try.sizeOf9
  v9 := Try.zeroValue9 }
open Go.RowKit Go.Lib in
theorem Try.strings_HasPrefix (s p : ByteArray) (w : World) :
    Calls Try.prog 17 #[.string s, .string p] w fun e w' => e = .returned (.bool (Lib.hasPrefix s.data.toList p.data.toList)) ∧ w' = w := Any.strings_HasPrefix Try.lays99 s p w
def Try.lays264_ren : Go.Shelf.Ren := ⟨fun | 264 => 24 | n => n, fun | 53 => 55 | 46 => 40 | n => n, fun | n => n⟩
theorem Try.lays264 : Go.Proofs.Lays.n264 Try.prog Try.lays264_ren := {
  mixed := by kernel_rfl
  f264 := Try.func24.trans (congrArg some (by kernel_rfl))
  t46 := Try.underlying40
  a46 := Try.isAgg40
  z46 := Try.sizeOf40
  v46 := Try.zeroValue40
  t53 := Try.underlying55
  a53 := Try.isAgg55
  z53 := Try.sizeOf55
  v53 := Try.zeroValue55 }
open Go.RowKit Go.Lib in
theorem Try.bits_Mul64 (x y : Nat) (hx : x < 18446744073709551616) (hy : y < 18446744073709551616) (w : World) :
    Calls Try.prog 24 #[.int .u64 x, .int .u64 y] w fun e w' => e = .returned (.tuple #[.int .u64 ((x * y / 18446744073709551616 : Nat) : Int), .int .u64 ((x * y % 18446744073709551616 : Nat) : Int)]) ∧ w' = w := Any.bits_Mul64 Try.lays264 x y hx hy w
def Try.lays212_ren : Go.Shelf.Ren := ⟨fun | 212 => 16 | 263 => 23 | 264 => 24 | n => n, fun | 46 => 40 | 51 => 57 | 146 => 58 | 53 => 55 | 148 => 60 | n => n, fun | n => n⟩
theorem Try.lays212 : Go.Proofs.Lays.n212 Try.prog Try.lays212_ren := {
  mixed := by kernel_rfl
  f212 := Try.func16.trans (congrArg some (by kernel_rfl))
  f263 := Try.func23.trans (congrArg some (by kernel_rfl))
  f264 := Try.func24.trans (congrArg some (by kernel_rfl))
  t46 := Try.underlying40
  a46 := Try.isAgg40
  z46 := Try.sizeOf40
  v46 := Try.zeroValue40
  t51 := Try.underlying57
  a51 := Try.isAgg57
  z51 := Try.sizeOf57
  v51 := Try.zeroValue57
  t53 := Try.underlying55
  a53 := Try.isAgg55
  z53 := Try.sizeOf55
  v53 := Try.zeroValue55
  t146 := Try.underlying58
  a146 := Try.isAgg58
  z146 := Try.sizeOf58
  v146 := Try.zeroValue58
  t148 := Try.underlying60
  a148 := Try.isAgg60
  z148 := Try.sizeOf60
  v148 := Try.zeroValue60 }
open Go.RowKit Go.Lib in
theorem Try.bits_Mul (x y : Nat) (hx : x < 18446744073709551616) (hy : y < 18446744073709551616) (w : World) :
    Calls Try.prog 16 #[.int .u64 x, .int .u64 y] w fun e w' => e = .returned (.tuple #[.int .u64 ((x * y / 18446744073709551616 : Nat) : Int), .int .u64 ((x * y % 18446744073709551616 : Nat) : Int)]) ∧ w' = w := Any.bits_Mul Try.lays212 x y hx hy w
def Try.lays105_ren : Go.Shelf.Ren := ⟨fun | 105 => 10 | 212 => 16 | 99 => 17 | 165 => 18 | 166 => 19 | 170 => 20 | 169 => 21 | 263 => 23 | 264 => 24 | 206 => 25 | 240 => 26 | 241 => 27 | 276 => 29 | 277 => 30 | n => n, fun | 9 => 9 | 3 => 3 | 4 => 4 | 20 => 20 | 0 => 0 | 46 => 40 | 109 => 41 | 5 => 5 | 72 => 46 | 76 => 50 | 51 => 57 | 146 => 58 | 53 => 55 | 148 => 60 | 70 => 44 | 37 => 24 | 75 => 49 | 127 => 62 | 164 => 67 | 80 => 53 | n => n, fun | n => n⟩
theorem Try.lays105 : Go.Proofs.Lays.n105 Try.prog Try.lays105_ren := {
  mixed := by kernel_rfl
  f99 := Try.func17.trans (congrArg some (by kernel_rfl))
  f105 := Try.func10.trans (congrArg some (by kernel_rfl))
  f165 := Try.func18.trans (congrArg some (by kernel_rfl))
  f166 := Try.func19.trans (congrArg some (by kernel_rfl))
  f169 := Try.func21.trans (congrArg some (by kernel_rfl))
  f170 := Try.func20.trans (congrArg some (by kernel_rfl))
  f206 := Try.func25.trans (congrArg some (by kernel_rfl))
  f212 := Try.func16.trans (congrArg some (by kernel_rfl))
  f240 := Try.func26.trans (congrArg some (by kernel_rfl))
  f241 := Try.func27.trans (congrArg some (by kernel_rfl))
  f263 := Try.func23.trans (congrArg some (by kernel_rfl))
  f264 := Try.func24.trans (congrArg some (by kernel_rfl))
  f276 := Try.func29.trans (congrArg some (by kernel_rfl))
  f277 := Try.func30.trans (congrArg some (by kernel_rfl))
  t0 := Try.underlying0
  a0 := Try.isAgg0
  z0 := Try.sizeOf0
  v0 := Try.zeroValue0
  t3 := Try.underlying3
  a3 := Try.isAgg3
  z3 := Try.sizeOf3
  v3 := Try.zeroValue3
  t4 := Try.underlying4
  a4 := Try.isAgg4
  z4 := Try.sizeOf4
  v4 := Try.zeroValue4
  t5 := Try.underlying5
  a5 := Try.isAgg5
  z5 := Try.sizeOf5
  v5 := Try.zeroValue5
  t9 := Try.underlying9
  a9 := Try.isAgg9
  z9 := Try.sizeOf9
  v9 := Try.zeroValue9
  t20 := Try.underlying20
  a20 := Try.isAgg20
  z20 := Try.sizeOf20
  v20 := Try.zeroValue20
  t37 := Try.underlying24
  a37 := Try.isAgg24
  z37 := Try.sizeOf24
  v37 := Try.zeroValue24
  t46 := Try.underlying40
  a46 := Try.isAgg40
  z46 := Try.sizeOf40
  v46 := Try.zeroValue40
  t51 := Try.underlying57
  a51 := Try.isAgg57
  z51 := Try.sizeOf57
  v51 := Try.zeroValue57
  t53 := Try.underlying55
  a53 := Try.isAgg55
  z53 := Try.sizeOf55
  v53 := Try.zeroValue55
  t70 := Try.underlying44
  a70 := Try.isAgg44
  z70 := Try.sizeOf44
  v70 := Try.zeroValue44
  t72 := Try.underlying46
  a72 := Try.isAgg46
  z72 := Try.sizeOf46
  v72 := Try.zeroValue46
  t75 := Try.underlying49
  a75 := Try.isAgg49
  z75 := Try.sizeOf49
  v75 := Try.zeroValue49
  t76 := Try.underlying50
  a76 := Try.isAgg50
  z76 := Try.sizeOf50
  v76 := Try.zeroValue50
  t109 := Try.underlying41
  a109 := Try.isAgg41
  z109 := Try.sizeOf41
  v109 := Try.zeroValue41
  t127 := Try.underlying62
  a127 := Try.isAgg62
  z127 := Try.sizeOf62
  v127 := Try.zeroValue62
  t146 := Try.underlying58
  a146 := Try.isAgg58
  z146 := Try.sizeOf58
  v146 := Try.zeroValue58
  t148 := Try.underlying60
  a148 := Try.isAgg60
  z148 := Try.sizeOf60
  v148 := Try.zeroValue60
  t164 := Try.underlying67
  a164 := Try.isAgg67
  z164 := Try.sizeOf67
  v164 := Try.zeroValue67 }
theorem Try.Builder_Extra_105 : Builder.Extra Try.prog Try.lays105_ren := {
  sizeBuilder := by kernel_rfl
  liesBuilder := by kernel_rfl
  t5 := Try.underlying5
  a5 := Try.isAgg5
  z5 := Try.sizeOf5
  v5 := Try.zeroValue5
  infoByte := by kernel_rfl
  cellsByte := by kernel_rfl
  sizeByte := by kernel_rfl
  neB5 := by decide }
open Go.RowKit Go.Lib in
theorem Try.strings_Repeat_main (s : ByteArray) (c : Nat) (w : World) (hc2 : 2 ≤ c) (hc : c ≤ 9223372036854775807) (hlen : s.size * c ≤ 140737488355328) (h0 : 0 < s.size) :
    Calls Try.prog 10 #[.string s, .int .i64 c] w fun e w' => e = .returned (.string ⟨(Lib.repeatL s.data.toList c).toArray⟩) ∧ Below w.heap.size w w' := Any.strings_Repeat_main Try.lays105 Try.Builder_Extra_105 s c w hc2 hc hlen h0
open Go.RowKit Go.Lib in
theorem Try.strings_Repeat_zero (s : ByteArray) (w : World) :
    Calls Try.prog 10 #[.string s, .int .i64 0] w fun e w' => e = .returned (.string ⟨#[]⟩) ∧ w' = w := Any.strings_Repeat_zero Try.lays105 s w
open Go.RowKit Go.Lib in
theorem Try.strings_Repeat_one (s : ByteArray) (w : World) :
    Calls Try.prog 10 #[.string s, .int .i64 1] w fun e w' => e = .returned (.string s) ∧ w' = w := Any.strings_Repeat_one Try.lays105 s w
open Go.RowKit Go.Lib in
theorem Try.strings_Repeat_empty (s : ByteArray) (c : Nat) (w : World) (hc2 : 2 ≤ c) (hc : c ≤ 9223372036854775807) (h0 : s.size = 0) :
    Calls Try.prog 10 #[.string s, .int .i64 c] w fun e w' => e = .returned (.string ⟨#[]⟩) ∧ w' = w := Any.strings_Repeat_empty Try.lays105 s c w hc2 hc h0
open Go.RowKit Go.Lib in
theorem Try.strings_Repeat_negative (s : ByteArray) (c : Int) (w : World) (hc : c < 0) :
    Calls Try.prog 10 #[.string s, .int .i64 c] w fun e w' => e = .panicked [{ v := repeatPanic Try.lays105_ren "strings: negative Repeat count", recovered := false }] ∧ w' = w := Any.strings_Repeat_negative Try.lays105 s c w hc
open Go.RowKit Go.Lib in
theorem Try.strings_Repeat_overflow (s : ByteArray) (c : Nat) (w : World) (hc : c ≤ 9223372036854775807) (hs : s.size ≤ 9223372036854775807) (hbig : 9223372036854775807 < s.size * c) :
    Calls Try.prog 10 #[.string s, .int .i64 c] w fun e w' => e = .panicked [{ v := repeatPanic Try.lays105_ren "strings: Repeat output length overflow", recovered := false }] ∧ w' = w := Any.strings_Repeat_overflow Try.lays105 s c w hc hs hbig
open Go.RowKit Go.Lib in
theorem Try.strings_Repeat (s : ByteArray) (c : Nat) (w : World) (hc : c ≤ 9223372036854775807) (hlen : s.size * c ≤ 140737488355328) :
    Calls Try.prog 10 #[.string s, .int .i64 c] w fun e w' => e = .returned (.string ⟨(Lib.repeatL s.data.toList c).toArray⟩) ∧ Below w.heap.size w w' := Any.strings_Repeat Try.lays105 Try.Builder_Extra_105 s c w hc hlen
end Go.Proofs
set_option maxRecDepth 100000
namespace Go.Proofs.Ytmbhibilmedjmaa
open Go.ChangeShapes Go.WideShapes Go.ChangeAt Go.RowKit
attribute [local go_sem] Gives GivesE
namespace TgP
def sZ : ByteArray := ⟨(Lib.repeatL [0] 64).toArray⟩
def sLit : ByteArray := ⟨#[76, 2, 0, 0, 0, 8, 0, 0, 0, 0, 0, 0, 1, 2, 0, 0, 0, 64]⟩
def lA : List Nat := numT 76 258 fun _ => 0
def lR : List Nat := plainT 82 []
def sR : ByteArray := ⟨#[82, 1, 0, 0, 0, 0]⟩
theorem sA_eq : sLit ++ sZ = str lA := by decide +kernel
theorem sR_eq : str lR = sR := by decide +kernel
theorem zlit_sec : ∀ w, (Instr.build 23 #[]).run Try.prog w = .ok (.agg (ar 64 fun _ => 0)) w := fun w => run_build w _ _ _ (by kernel_rfl)
theorem alen : lA.length = 82 := numT_length
theorem rlen : lR.length = 6 := plainT_length
set_option maxHeartbeats 400000 in
set_option maxRecDepth 100000 in
theorem awake_any (H : LeafC) (w : World) : Calls Try.prog 5 #[] w fun e w' => e = .returned (.bool true) ∧ Below w.heap.size w w' := by
  have HA := hid (H.leafText 258 (by omega) (fun _ => 0) (by intro i; omega))
  have HR := hid H.rootText
  clear H
  have HEA := hid sA_eq
  have HER := hid sR_eq
  have HLA := hid alen
  have HLR := hid rlen
  have HA2 := hid (show B256 lA from numT_256 (by omega) _ (by intro i; omega))
  have HR2 := hid (show B256 lR from plainT_256 (by omega) (fun x hx => by cases hx))
  rw [show numT 76 258 (fun _ => 0) = lA from rfl] at HA
  have HRR := hid (fun (w : World) => HR.out none [] 0 0 (by omega) w ⟨rfl, Nat.le_refl _, by unfold maxLen; omega, (fun x hx => by cases hx), fun _ => ⟨rfl, rfl⟩, Byt.none rfl⟩)
  rw [show plainT 82 [] = lR from rfl] at HRR
  clear HR
  have HZ := hid (show ∀ w : World, Calls Try.prog 10 #[.string ⟨#[0]⟩, .int .i64 64] w fun e w' => e = .returned (.string sZ) ∧ Below w.heap.size w w' from fun w => Try.strings_Repeat ⟨#[0]⟩ 64 w (by omega) (by decide))
  go_enter Try.func5, Try.ntmps5
  go_upto_region 1 with fail
  refine wp_region_eS [some (.agg (ar 64 fun _ => 0)), none, some (.string (str lA)), some (.string sZ), some (.string (str lA)), some (.bool true), some (.bool true), none, some (.string sR), some (.bool true), some (.bool true)] [(1, lA), (7, lR)] 11 (by kernel_rfl) (by kernel_rfl) (by kernel_rfl) fun vs => ?_
  simp only [List.take_succ_cons, List.take_zero, List.drop_succ_cons, List.drop_zero]
  refine ⟨.inl ⟨rfl, fun dd w' hd hC hDs => ?_⟩, fun e => ?_⟩
  · have h1 : (Instr.build 23 #[]).run Try.prog w' = .ok (.agg (ar 64 fun _ => 0)) w' := zlit_sec w'
    go_simp
    first | exact ⟨rfl, hC, Below.refl _ _, eD_none rfl⟩ | exact ⟨rfl, Below.refl _ _, eD_none rfl⟩ | exact ⟨hC, Below.refl _ _, eD_none rfl⟩
  have e' : vs 0 = _ := e
  rw [e']
  clear e e'
  simp only [Act.put, List.setIfInBounds_toArray, List.set_cons_succ, List.set_cons_zero]
  refine ⟨.inl ⟨rfl, fun dd w' hd hC hDs => ?_⟩, fun e => ?_⟩
  · go_simp
    refine ((HA.out w')).mono ?_
    rintro e w2 ⟨v, rfl, o2, h2⟩
    have hbs : B256 _ := HA2.out
    exact ⟨_, rfl, own_sl o2 hbs, hC.trans (h2.mono hC.size), h2, own_eD rfl o2 hbs⟩
  obtain ⟨A1, c1, e'⟩ : ∃ (A : Option Addr) (c : Nat), vs 1 = .slice A _ c := e
  rw [e']
  have E1 := hid e'
  clear e'
  simp only [Act.put, List.setIfInBounds_toArray, List.set_cons_succ, List.set_cons_zero]
  refine ⟨.inl ⟨rfl, fun dd w' hd hC hDs => ?_⟩, fun e => ?_⟩
  · obtain ⟨B1, k1, f1, a1⟩ := hDs 1 (by kernel_rfl) lA rfl
    rw [E1.out] at f1
    cases f1
    have h1 : (convert 24 9 (.slice A1 lA.length c1)).run Try.prog w' = .ok (.string (str lA)) w' := by exact a1.str
    go_simp
    first | exact ⟨rfl, hC, Below.refl _ _, eD_none rfl⟩ | exact ⟨rfl, Below.refl _ _, eD_none rfl⟩ | exact ⟨hC, Below.refl _ _, eD_none rfl⟩
  have e' : vs 2 = _ := e
  rw [e']
  clear e e'
  simp only [Act.put, List.setIfInBounds_toArray, List.set_cons_succ, List.set_cons_zero]
  refine ⟨.inl ⟨rfl, fun dd w' hd hC hDs => ?_⟩, fun e => ?_⟩
  · go_simp
    refine ((HZ.out w')).mono ?_
    rintro e w2 ⟨rfl, h2⟩
    exact ⟨_, rfl, rfl, hC.trans (h2.mono hC.size), h2, eD_none rfl⟩
  have e' : vs 3 = _ := e
  rw [e']
  clear e e'
  simp only [Act.put, List.setIfInBounds_toArray, List.set_cons_succ, List.set_cons_zero]
  refine ⟨.inl ⟨rfl, fun dd w' hd hC hDs => ?_⟩, fun e => ?_⟩
  · have h1 : (⟨#[76, 2, 0, 0, 0, 8, 0, 0, 0, 0, 0, 0, 1, 2, 0, 0, 0, 64]⟩ : ByteArray) ++ sZ = str lA := HEA.out
    go_simp
    first | exact ⟨rfl, hC, Below.refl _ _, eD_none rfl⟩ | exact ⟨rfl, Below.refl _ _, eD_none rfl⟩ | exact ⟨hC, Below.refl _ _, eD_none rfl⟩
  have e' : vs 4 = _ := e
  rw [e']
  clear e e'
  simp only [Act.put, List.setIfInBounds_toArray, List.set_cons_succ, List.set_cons_zero]
  refine ⟨.inl ⟨rfl, fun dd w' hd hC hDs => ?_⟩, fun e => ?_⟩
  · go_simp
    first | exact ⟨rfl, hC, Below.refl _ _, eD_none rfl⟩ | exact ⟨rfl, Below.refl _ _, eD_none rfl⟩ | exact ⟨hC, Below.refl _ _, eD_none rfl⟩
  have e' : vs 5 = _ := e
  rw [e']
  clear e e'
  simp only [Act.put, List.setIfInBounds_toArray, List.set_cons_succ, List.set_cons_zero]
  refine ⟨.inl ⟨rfl, fun dd w' hd hC hDs => ?_⟩, fun e => ?_⟩
  · go_simp
    first | exact ⟨rfl, hC, Below.refl _ _, eD_none rfl⟩ | exact ⟨rfl, Below.refl _ _, eD_none rfl⟩ | exact ⟨hC, Below.refl _ _, eD_none rfl⟩
  have e' : vs 6 = _ := e
  rw [e']
  clear e e'
  simp only [Act.put, List.setIfInBounds_toArray, List.set_cons_succ, List.set_cons_zero]
  refine ⟨.inl ⟨rfl, fun dd w' hd hC hDs => ?_⟩, fun e => ?_⟩
  · go_simp
    refine ((HRR.out w')).mono ?_
    rintro e w2 ⟨v, rfl, o2, h2⟩
    have hbs : B256 _ := HR2.out
    exact ⟨_, rfl, own_sl o2 hbs, hC.trans (h2.mono hC.size), h2, own_eD rfl o2 hbs⟩
  obtain ⟨A7, c7, e'⟩ : ∃ (A : Option Addr) (c : Nat), vs 7 = .slice A _ c := e
  rw [e']
  have E7 := hid e'
  clear e'
  simp only [Act.put, List.setIfInBounds_toArray, List.set_cons_succ, List.set_cons_zero]
  refine ⟨.inl ⟨rfl, fun dd w' hd hC hDs => ?_⟩, fun e => ?_⟩
  · obtain ⟨B7, k7, f7, a7⟩ := hDs 7 (by kernel_rfl) lR rfl
    rw [E7.out] at f7
    cases f7
    have h1 : (convert 24 9 (.slice A7 lR.length c7)).run Try.prog w' = .ok (.string sR) w' := by rw [← HER.out]; exact a7.str
    go_simp
    first | exact ⟨rfl, hC, Below.refl _ _, eD_none rfl⟩ | exact ⟨rfl, Below.refl _ _, eD_none rfl⟩ | exact ⟨hC, Below.refl _ _, eD_none rfl⟩
  have e' : vs 8 = _ := e
  rw [e']
  clear e e'
  simp only [Act.put, List.setIfInBounds_toArray, List.set_cons_succ, List.set_cons_zero]
  refine ⟨.inl ⟨rfl, fun dd w' hd hC hDs => ?_⟩, fun e => ?_⟩
  · have h1 : (sR.toList == [82, 1, 0, 0, 0, 0]) = true := by decide +kernel
    go_simp
    first | exact ⟨rfl, hC, Below.refl _ _, eD_none rfl⟩ | exact ⟨rfl, Below.refl _ _, eD_none rfl⟩ | exact ⟨hC, Below.refl _ _, eD_none rfl⟩
  have e' : vs 9 = _ := e
  rw [e']
  clear e e'
  simp only [Act.put, List.setIfInBounds_toArray, List.set_cons_succ, List.set_cons_zero]
  refine ⟨.inl ⟨rfl, fun dd w' hd hC hDs => ?_⟩, fun e => ?_⟩
  · go_simp
    first | exact ⟨rfl, hC, Below.refl _ _, eD_none rfl⟩ | exact ⟨rfl, Below.refl _ _, eD_none rfl⟩ | exact ⟨hC, Below.refl _ _, eD_none rfl⟩
  have e' : vs 10 = _ := e
  rw [e']
  clear e e'
  simp only [Act.put, List.setIfInBounds_toArray, List.set_cons_succ, List.set_cons_zero]
  intro dd w4 hall hC4 hDs
  have db := hid hC4
  clear hall hC4 hDs
  go_wp2_with fail
  go_ret
  exact ⟨rfl, db.out⟩
end TgP
end Go.Proofs.Ytmbhibilmedjmaa
set_option maxRecDepth 100000
namespace Go.Proofs.Ytmbhibilmedjmaa
open Go.ChangeShapes Go.WideShapes Go.ChangeAt Go.RowKit
attribute [local go_sem] Gives GivesE
namespace TgP
theorem uT : Try.prog.underlying 31 = some (.array 32 5) := Try.underlying31
theorem uS : Try.prog.underlying 23 = some (.array 64 5) := Try.underlying23
theorem eqgT : Try.prog.eqGuardType Try.prog.depth 31 = false := by kernel_rfl
theorem eqgS : Try.prog.eqGuardType Try.prog.depth 23 = false := by kernel_rfl
theorem joined_left (f g : Nat → Nat) : ar 32 (joined f g) = ar 32 f := ar_ext fun j hj => by unfold joined; rw [if_pos hj]
theorem joined_right (f g : Nat → Nat) : ar 32 (fun j => joined f g (32 + j)) = ar 32 g := ar_ext fun j hj => by
  show joined f g (32 + j) = g j
  unfold joined
  rw [if_neg (by omega), show 32 + j - 32 = j by omega]
theorem joined_split (s : Nat → Nat) : ar 64 (joined s fun j => s (32 + j)) = ar 64 s := ar_ext fun j hj => by
  unfold joined
  by_cases h : j < 32
  · rw [if_pos h]
  · rw [if_neg h]
    show s (32 + (j - 32)) = s j
    rw [show 32 + (j - 32) = j by omega]
theorem eqA_self {n : Nat} (f : Nat → Nat) : eqA n f f = true := eqA_yes fun _ _ => rfl
set_option maxHeartbeats 400000 in
set_option maxRecDepth 100000 in
theorem join_law (H : LeafC) (J : JoinC) (f g s : Nat → Nat) (w : World) :
    Calls Try.prog 4 #[.agg (ar 32 f), .agg (ar 32 g), .agg (ar 64 s)] w fun e w' => e = .returned (.bool true) ∧ Below w.heap.size w w' := by
  have HA := hid fun w => awake_any H w
  have HJ := hid J.join
  have HP := hid (show ∀ (s : Nat → Nat) (w : World), Calls Try.prog 7 #[.agg (ar 64 s)] w fun e w' => e = .returned (.tuple #[.agg (ar 32 s), .agg (ar 32 fun j => s (32 + j))]) ∧ Below w.heap.size w w' from J.split)
  clear H J
  have HJS := hid fun w => by have := HJ.out s (fun j => s (32 + j)) w; rw [joined_split] at this; exact this
  have HPJ := hid fun w => by have := HP.out (joined f g) w; rw [joined_left, joined_right] at this; exact this
  go_enter Try.func4, Try.ntmps4
  go_upto_region 1 with fail
  generalize hw1 : World.alloc (World.alloc (World.alloc w _) _) _ = w1
  have z0 := hid (show Blk w1 w.heap.size 31 (ar 32 f) by rw [← hw1]; exact ((Blk.new _ _ _).alloc _).alloc _)
  have z1 := hid (show Blk w1 (w.heap.size + 1) 31 (ar 32 g) by rw [← hw1]; exact (Blk.top rfl (by simp)).alloc _)
  have z2 := hid (show Blk w1 (w.heap.size + 2) 23 (ar 64 s) by rw [← hw1]; exact Blk.top rfl (by simp))
  have hb := hid (show Below w.heap.size w w1 by rw [← hw1]; exact (((Below.refl _ _).alloc (Nat.le_refl _) _).alloc (by simp) _).alloc (by simp; omega) _)
  clear hw1
  go_wp2_with (first | ((with_reducible apply ldA tT); rfl; exact z0.out) | ((with_reducible apply ldA tT); rfl; exact z1.out))
  refine (HJ.out f g w1).mono ?_
  rintro e w2 ⟨rfl, h2⟩
  have y0 := hid (z0.out.below h2 z0.out.lt)
  have y1 := hid (z1.out.below h2 z1.out.lt)
  have y2 := hid (z2.out.below h2 z2.out.lt)
  have yb := hid (hb.out.trans (h2.mono hb.out.size))
  clear z0 z1 z2 hb h2
  go_wp2_with fail
  refine (HPJ.out w2).mono ?_
  rintro e w3 ⟨rfl, h3⟩
  have x0 := hid (y0.out.below h3 y0.out.lt)
  have x1 := hid (y1.out.below h3 y1.out.lt)
  have x2 := hid (y2.out.below h3 y2.out.lt)
  have xb := hid (yb.out.trans (h3.mono yb.out.size))
  clear y0 y1 y2 yb h3
  have hl := x2.out.lt
  have hz1 : Blk ((w3.alloc (.cells (ar 32 fun _ => 0) 31)).alloc (.cells (ar 32 fun _ => 0) 31)) w3.heap.size 31 (ar 32 fun _ => 0) := (Blk.new _ _ _).alloc _
  have hz2 : Blk (((w3.alloc (.cells (ar 32 fun _ => 0) 31)).alloc (.cells (ar 32 fun _ => 0) 31)).setRow w3.heap.size (ar 32 f)) (w3.alloc (.cells (ar 32 fun _ => 0) 31)).heap.size 31 (ar 32 fun _ => 0) := (Blk.new _ _ _).setRow_other (by simp) _
  go_upto_region 2 with (first | (with_reducible apply alA tT) | ((with_reducible apply stA tT); rfl; rfl; exact hz1) | ((with_reducible apply stA tT); rfl; rfl; exact hz2))
  have hgs : (w3.alloc (.cells (ar 32 fun _ => 0) 31)).heap.size = w3.heap.size + 1 := by simp
  rw [hgs] at hz2 ⊢
  clear hgs
  obtain ⟨gt, hgt⟩ : ∃ gt, gt = w3.heap.size := ⟨_, rfl⟩
  rw [← hgt] at hz1 hz2 hl ⊢
  generalize hw4 : World.setRow _ (gt + 1) _ = w4
  have v3 := hid (show Blk w4 gt 31 (ar 32 f) by rw [← hw4]; exact (hz1.setRow_same _).setRow_other (by omega) _)
  have v4 := hid (show Blk w4 (gt + 1) 31 (ar 32 g) by rw [← hw4]; exact hz2.setRow_same _)
  have v0 := hid (show Blk w4 w.heap.size 31 (ar 32 f) by rw [← hw4]; exact (((x0.out.alloc _).alloc _).setRow_other (by omega) _).setRow_other (by omega) _)
  have v1 := hid (show Blk w4 (w.heap.size + 1) 31 (ar 32 g) by rw [← hw4]; exact (((x1.out.alloc _).alloc _).setRow_other (by omega) _).setRow_other (by omega) _)
  have v2 := hid (show Blk w4 (w.heap.size + 2) 23 (ar 64 s) by rw [← hw4]; exact (((x2.out.alloc _).alloc _).setRow_other (by omega) _).setRow_other (by omega) _)
  have vb := hid (show Below w.heap.size w w4 by rw [← hw4]; exact below_setRow (below_setRow ((xb.out.alloc xb.out.size _).alloc (by simp; have := xb.out.size; omega) _) (by omega) _) (by omega) _)
  clear hw4 hz1 hz2 hgt x0 x1 x2 xb
  refine wp_region_eS [some (.agg (ar 32 f)), some (.agg (ar 32 f)), some (.bool true), some (.bool true), some (.agg (ar 32 g)), some (.agg (ar 32 g)), some (.bool true), some (.bool true), some (.bool true), some (.agg (ar 64 s)), some (.tuple #[.agg (ar 32 s), .agg (ar 32 fun j => s (32 + j))]), some (.agg (ar 32 s)), some (.agg (ar 32 fun j => s (32 + j))), some (.agg (ar 64 s)), some (.agg (ar 64 s)), some (.bool true), some (.bool true), some (.bool true), some (.bool true), some (.bool true)] [] 20 (by kernel_rfl) (by kernel_rfl) (by kernel_rfl) fun vs => ?_
  simp only [List.take_succ_cons, List.take_zero, List.drop_succ_cons, List.drop_zero]
  refine ⟨.inl ⟨rfl, fun dd w' hd hC hDs => ?_⟩, fun e => ?_⟩
  · exact gE_ldA tT rfl ((v3.out.below hC v3.out.lt).head) ⟨rfl, hC, Below.refl _ _, eD_none rfl⟩
  have e' : vs 0 = _ := e
  rw [e']
  clear e e'
  simp only [Act.put, List.setIfInBounds_toArray, List.set_cons_succ, List.set_cons_zero]
  refine ⟨.inl ⟨rfl, fun dd w' hd hC hDs => ?_⟩, fun e => ?_⟩
  · exact gE_ldA tT rfl ((v0.out.below hC v0.out.lt).head) ⟨rfl, hC, Below.refl _ _, eD_none rfl⟩
  have e' : vs 1 = _ := e
  rw [e']
  clear e e'
  simp only [Act.put, List.setIfInBounds_toArray, List.set_cons_succ, List.set_cons_zero]
  refine ⟨.inl ⟨rfl, fun dd w' hd hC hDs => ?_⟩, fun e => ?_⟩
  · exact gE_eqU uT eqgT rfl rfl ⟨by rw [eqA_self]; rfl, hC, Below.refl _ _, eD_none rfl⟩
  have e' : vs 2 = _ := e
  rw [e']
  clear e e'
  simp only [Act.put, List.setIfInBounds_toArray, List.set_cons_succ, List.set_cons_zero]
  refine ⟨.inl ⟨rfl, fun dd w' hd hC hDs => ?_⟩, fun e => ?_⟩
  · go_simp
    first | exact ⟨rfl, hC, Below.refl _ _, eD_none rfl⟩ | exact ⟨rfl, Below.refl _ _, eD_none rfl⟩ | exact ⟨hC, Below.refl _ _, eD_none rfl⟩
  have e' : vs 3 = _ := e
  rw [e']
  clear e e'
  simp only [Act.put, List.setIfInBounds_toArray, List.set_cons_succ, List.set_cons_zero]
  refine ⟨.inl ⟨rfl, fun dd w' hd hC hDs => ?_⟩, fun e => ?_⟩
  · exact gE_ldA tT rfl ((v4.out.below hC v4.out.lt).head) ⟨rfl, hC, Below.refl _ _, eD_none rfl⟩
  have e' : vs 4 = _ := e
  rw [e']
  clear e e'
  simp only [Act.put, List.setIfInBounds_toArray, List.set_cons_succ, List.set_cons_zero]
  refine ⟨.inl ⟨rfl, fun dd w' hd hC hDs => ?_⟩, fun e => ?_⟩
  · exact gE_ldA tT rfl ((v1.out.below hC v1.out.lt).head) ⟨rfl, hC, Below.refl _ _, eD_none rfl⟩
  have e' : vs 5 = _ := e
  rw [e']
  clear e e'
  simp only [Act.put, List.setIfInBounds_toArray, List.set_cons_succ, List.set_cons_zero]
  refine ⟨.inl ⟨rfl, fun dd w' hd hC hDs => ?_⟩, fun e => ?_⟩
  · exact gE_eqU uT eqgT rfl rfl ⟨by rw [eqA_self]; rfl, hC, Below.refl _ _, eD_none rfl⟩
  have e' : vs 6 = _ := e
  rw [e']
  clear e e'
  simp only [Act.put, List.setIfInBounds_toArray, List.set_cons_succ, List.set_cons_zero]
  refine ⟨.inl ⟨rfl, fun dd w' hd hC hDs => ?_⟩, fun e => ?_⟩
  · go_simp
    first | exact ⟨rfl, hC, Below.refl _ _, eD_none rfl⟩ | exact ⟨rfl, Below.refl _ _, eD_none rfl⟩ | exact ⟨hC, Below.refl _ _, eD_none rfl⟩
  have e' : vs 7 = _ := e
  rw [e']
  clear e e'
  simp only [Act.put, List.setIfInBounds_toArray, List.set_cons_succ, List.set_cons_zero]
  refine ⟨.inl ⟨rfl, fun dd w' hd hC hDs => ?_⟩, fun e => ?_⟩
  · go_simp
    first | exact ⟨rfl, hC, Below.refl _ _, eD_none rfl⟩ | exact ⟨rfl, Below.refl _ _, eD_none rfl⟩ | exact ⟨hC, Below.refl _ _, eD_none rfl⟩
  have e' : vs 8 = _ := e
  rw [e']
  clear e e'
  simp only [Act.put, List.setIfInBounds_toArray, List.set_cons_succ, List.set_cons_zero]
  refine ⟨.inl ⟨rfl, fun dd w' hd hC hDs => ?_⟩, fun e => ?_⟩
  · exact gE_ldA tS rfl ((v2.out.below hC v2.out.lt).head) ⟨rfl, hC, Below.refl _ _, eD_none rfl⟩
  have e' : vs 9 = _ := e
  rw [e']
  clear e e'
  simp only [Act.put, List.setIfInBounds_toArray, List.set_cons_succ, List.set_cons_zero]
  refine ⟨.inl ⟨rfl, fun dd w' hd hC hDs => ?_⟩, fun e => ?_⟩
  · go_simp
    refine ((HP.out s w')).mono ?_
    rintro e w2 ⟨rfl, h2⟩
    exact ⟨_, rfl, rfl, hC.trans (h2.mono hC.size), h2, eD_none rfl⟩
  have e' : vs 10 = _ := e
  rw [e']
  clear e e'
  simp only [Act.put, List.setIfInBounds_toArray, List.set_cons_succ, List.set_cons_zero]
  refine ⟨.inl ⟨rfl, fun dd w' hd hC hDs => ?_⟩, fun e => ?_⟩
  · go_simp
    first | exact ⟨rfl, hC, Below.refl _ _, eD_none rfl⟩ | exact ⟨rfl, Below.refl _ _, eD_none rfl⟩ | exact ⟨hC, Below.refl _ _, eD_none rfl⟩
  have e' : vs 11 = _ := e
  rw [e']
  clear e e'
  simp only [Act.put, List.setIfInBounds_toArray, List.set_cons_succ, List.set_cons_zero]
  refine ⟨.inl ⟨rfl, fun dd w' hd hC hDs => ?_⟩, fun e => ?_⟩
  · go_simp
    first | exact ⟨rfl, hC, Below.refl _ _, eD_none rfl⟩ | exact ⟨rfl, Below.refl _ _, eD_none rfl⟩ | exact ⟨hC, Below.refl _ _, eD_none rfl⟩
  have e' : vs 12 = _ := e
  rw [e']
  clear e e'
  simp only [Act.put, List.setIfInBounds_toArray, List.set_cons_succ, List.set_cons_zero]
  refine ⟨.inl ⟨rfl, fun dd w' hd hC hDs => ?_⟩, fun e => ?_⟩
  · go_simp
    refine ((HJS.out w')).mono ?_
    rintro e w2 ⟨rfl, h2⟩
    exact ⟨_, rfl, rfl, hC.trans (h2.mono hC.size), h2, eD_none rfl⟩
  have e' : vs 13 = _ := e
  rw [e']
  clear e e'
  simp only [Act.put, List.setIfInBounds_toArray, List.set_cons_succ, List.set_cons_zero]
  refine ⟨.inl ⟨rfl, fun dd w' hd hC hDs => ?_⟩, fun e => ?_⟩
  · exact gE_ldA tS rfl ((v2.out.below hC v2.out.lt).head) ⟨rfl, hC, Below.refl _ _, eD_none rfl⟩
  have e' : vs 14 = _ := e
  rw [e']
  clear e e'
  simp only [Act.put, List.setIfInBounds_toArray, List.set_cons_succ, List.set_cons_zero]
  refine ⟨.inl ⟨rfl, fun dd w' hd hC hDs => ?_⟩, fun e => ?_⟩
  · exact gE_eqU uS eqgS rfl rfl ⟨by rw [eqA_self]; rfl, hC, Below.refl _ _, eD_none rfl⟩
  have e' : vs 15 = _ := e
  rw [e']
  clear e e'
  simp only [Act.put, List.setIfInBounds_toArray, List.set_cons_succ, List.set_cons_zero]
  refine ⟨.inl ⟨rfl, fun dd w' hd hC hDs => ?_⟩, fun e => ?_⟩
  · go_simp
    first | exact ⟨rfl, hC, Below.refl _ _, eD_none rfl⟩ | exact ⟨rfl, Below.refl _ _, eD_none rfl⟩ | exact ⟨hC, Below.refl _ _, eD_none rfl⟩
  have e' : vs 16 = _ := e
  rw [e']
  clear e e'
  simp only [Act.put, List.setIfInBounds_toArray, List.set_cons_succ, List.set_cons_zero]
  refine ⟨.inl ⟨rfl, fun dd w' hd hC hDs => ?_⟩, fun e => ?_⟩
  · go_simp
    first | exact ⟨rfl, hC, Below.refl _ _, eD_none rfl⟩ | exact ⟨rfl, Below.refl _ _, eD_none rfl⟩ | exact ⟨hC, Below.refl _ _, eD_none rfl⟩
  have e' : vs 17 = _ := e
  rw [e']
  clear e e'
  simp only [Act.put, List.setIfInBounds_toArray, List.set_cons_succ, List.set_cons_zero]
  refine ⟨.inl ⟨rfl, fun dd w' hd hC hDs => ?_⟩, fun e => ?_⟩
  · go_simp
    refine ((HA.out w')).mono ?_
    rintro e w2 ⟨rfl, h2⟩
    exact ⟨_, rfl, rfl, hC.trans (h2.mono hC.size), h2, eD_none rfl⟩
  have e' : vs 18 = _ := e
  rw [e']
  clear e e'
  simp only [Act.put, List.setIfInBounds_toArray, List.set_cons_succ, List.set_cons_zero]
  refine ⟨.inl ⟨rfl, fun dd w' hd hC hDs => ?_⟩, fun e => ?_⟩
  · go_simp
    first | exact ⟨rfl, hC, Below.refl _ _, eD_none rfl⟩ | exact ⟨rfl, Below.refl _ _, eD_none rfl⟩ | exact ⟨hC, Below.refl _ _, eD_none rfl⟩
  have e' : vs 19 = _ := e
  rw [e']
  clear e e'
  simp only [Act.put, List.setIfInBounds_toArray, List.set_cons_succ, List.set_cons_zero]
  intro dd w5 hall hC5 hDs
  have db := hid (vb.out.trans (hC5.mono vb.out.size))
  clear hall hC5 hDs v0 v1 v2 v3 v4 vb
  go_wp2_with fail
  go_ret
  exact ⟨rfl, db.out⟩
end TgP
end Go.Proofs.Ytmbhibilmedjmaa
set_option maxRecDepth 100000
namespace Go.Proofs.Ytmbhibilmedjmaa
open Go.RowKit
namespace TgP
theorem bits_inj {a b : Int} (ha : -9223372036854775808 ≤ a ∧ a ≤ 9223372036854775807) (hb : -9223372036854775808 ≤ b ∧ b ≤ 9223372036854775807) (h : bits a = bits b) : a = b := by
  unfold bits at h; omega
theorem dig8_inj {a b : Nat} (ha : a < 18446744073709551616) (hb : b < 18446744073709551616) (h : BytM.dig 8 a = BytM.dig 8 b) : a = b := by
  have h1 := congrArg BytM.val h
  rw [BytM.val_dig, BytM.val_dig] at h1
  rw [show (256 : Nat) ^ 8 = 18446744073709551616 by decide, Nat.mod_eq_of_lt ha, Nat.mod_eq_of_lt hb] at h1
  exact h1
theorem ls_inj {n : Nat} {f g : Nat → Nat} (h : ls n f = ls n g) : ∀ i, i < n → f i = g i := fun i hi => by
  have h1 := congrArg (fun l => l[i]?) h
  simpa [ls, hi] using h1
theorem ls_ext {n : Nat} {f g : Nat → Nat} (h : ∀ i, i < n → f i = g i) : ls n f = ls n g :=
  List.map_congr_left fun i hi => h i (List.mem_range.1 hi)
theorem numT_inj {d e : Nat} {a b : Int} {s t : Nat → Nat} (ha : -9223372036854775808 ≤ a ∧ a ≤ 9223372036854775807) (hb : -9223372036854775808 ≤ b ∧ b ≤ 9223372036854775807) (h : numT d a s = numT e b t) : d = e ∧ a = b ∧ ∀ i, i < 64 → s i = t i := by
  unfold numT BytM.rowB at h
  obtain ⟨h0, h⟩ := List.cons.inj h
  obtain ⟨_, h⟩ := List.cons.inj h
  simp only [BytM.flatP, List.append_nil] at h
  rw [List.append_assoc, List.append_assoc] at h
  obtain ⟨_, h⟩ := List.append_inj h (by rw [BytM.dig_length, BytM.dig_length])
  obtain ⟨h1, h⟩ := List.append_inj h (by rw [BytM.dig_length, BytM.dig_length])
  obtain ⟨_, h2⟩ := List.append_inj h (by rw [BytM.dig_length, BytM.dig_length])
  exact ⟨h0, bits_inj ha hb (dig8_inj (bits_lt _) (bits_lt _) h1), ls_inj h2⟩
theorem numT_ext {d : Nat} {a : Int} {s t : Nat → Nat} (h : ∀ i, i < 64 → s i = t i) : numT d a s = numT d a t := by
  unfold numT; rw [ls_ext h]
theorem plainT_inj {d e : Nat} {l m : List Nat} (h : plainT d l = plainT e m) : d = e ∧ l = m := by
  unfold plainT BytM.rowB at h
  obtain ⟨h0, h⟩ := List.cons.inj h
  obtain ⟨_, h⟩ := List.cons.inj h
  simp only [BytM.flatP, List.append_nil] at h
  obtain ⟨_, h⟩ := List.append_inj h (by rw [BytM.dig_length, BytM.dig_length])
  exact ⟨h0, h⟩
theorem numT_ne {d e : Nat} {a : Int} {s : Nat → Nat} {l : List Nat} : numT d a s ≠ plainT e l := fun h => by
  unfold numT plainT BytM.rowB at h
  obtain ⟨_, h⟩ := List.cons.inj h
  obtain ⟨h, _⟩ := List.cons.inj h
  simp at h
/-- The message of a text of any kind. -/
def textL (k : Nat) (num : Int) (s : Nat → Nat) (l : List Nat) : List Nat := match k % 5 with
  | 0 => numT 76 num s
  | 1 => numT 78 num s
  | 2 => plainT 82 l
  | 3 => plainT 72 l
  | _ => plainT 66 l
theorem five (k : Nat) : k % 5 = 0 ∨ k % 5 = 1 ∨ k % 5 = 2 ∨ k % 5 = 3 ∨ k % 5 = 4 := by omega
/-- The law in plain numbers. -/
theorem apart {k k' : Nat} {a b : Int} {s t : Nat → Nat} {l m : List Nat} (ha : -9223372036854775808 ≤ a ∧ a ≤ 9223372036854775807) (hb : -9223372036854775808 ≤ b ∧ b ≤ 9223372036854775807) :
    textL k a s l = textL k' b t m ↔ k % 5 = k' % 5 ∧ (if k % 5 < 2 then a = b ∧ ∀ i, i < 64 → s i = t i else l = m) := by
  unfold textL
  rcases five k with h | h | h | h | h <;> rcases five k' with h' | h' | h' | h' | h' <;> simp only [h, h'] <;> constructor <;> intro H
  all_goals first
    | exact absurd H numT_ne
    | exact absurd H.symm numT_ne
    | (obtain ⟨h0, h1, h2⟩ := numT_inj ha hb H; first | exact absurd h0 (by decide) | (subst h1; simp; exact h2))
    | (obtain ⟨h0, h1⟩ := plainT_inj H; first | exact absurd h0 (by decide) | (subst h1; simp))
    | (simp at H; done)
    | (simp at H; obtain ⟨rfl, h3⟩ := H; exact numT_ext h3)
    | (simp at H; rw [H])
end TgP
end Go.Proofs.Ytmbhibilmedjmaa
set_option maxRecDepth 100000
namespace Go.Proofs.Ytmbhibilmedjmaa
open Go.ChangeShapes Go.WideShapes Go.ChangeAt Go.RowKit
attribute [local go_sem] Gives GivesE
namespace TgP
/-- A text in memory: 67 cells. -/
def txF (k : Nat) (num : Int) (s : Nat → Nat) (v : Value) (j : Nat) : Value :=
  if j = 0 then .int .u8 (k : Nat) else if j = 1 then .int .i64 num else if j < 66 then .int .u8 (s (j - 2) : Nat) else v
def tx (k : Nat) (num : Int) (s : Nat → Nat) (v : Value) : Array Value := row 67 (txF k num s v)
theorem tx_sec {w : World} {g k : Nat} {num : Int} {s : Nat → Nat} {v : Value} {t : TypeId} (h : Blk w g t (tx k num s v)) : w.rangeAt g 2 (ar 64 s).toList := fun j u hu => by
  obtain ⟨hj, rfl⟩ := ar_list_get hu
  rw [h.cell]
  unfold tx
  rw [get_row_lt (by omega)]
  unfold txF
  rw [if_neg (by omega), if_neg (by omega), if_pos (by omega), show 2 + j - 2 = j by omega]
theorem tx_0 {w : World} {g k : Nat} {num : Int} {s : Nat → Nat} {v : Value} {t : TypeId} (h : Blk w g t (tx k num s v)) : w.cell? ⟨g, 0, none⟩ = some (.int .u8 (k : Nat)) := by
  rw [h.cell]; unfold tx; rw [get_row_lt (by omega)]; rfl
theorem tx_1 {w : World} {g k : Nat} {num : Int} {s : Nat → Nat} {v : Value} {t : TypeId} (h : Blk w g t (tx k num s v)) : w.cell? ⟨g, 1, none⟩ = some (.int .i64 num) := by
  rw [h.cell]; unfold tx; rw [get_row_lt (by omega)]; rfl
theorem tx_66 {w : World} {g k : Nat} {num : Int} {s : Nat → Nat} {v : Value} {t : TypeId} (h : Blk w g t (tx k num s v)) : w.cell? ⟨g, 66, none⟩ = some v := by
  rw [h.cell]; unfold tx; rw [get_row_lt (by omega)]; rfl
set_option maxHeartbeats 400000 in
set_option maxRecDepth 100000 in
theorem text_any (H : LeafC) (R : RestC) (k : Nat) (num : Int) (hnum : -9223372036854775808 ≤ num ∧ num ≤ 9223372036854775807) (s : Nat → Nat) (hs : ∀ i, s i < 256) (A : Option Addr) (l : List Nat) (n cap : Nat) (hn : n ≤ 10000) (w : World) (h : Arg w A l n cap) :
    Calls Try.prog 6 #[.agg (tx k num s (.slice A n cap))] w fun e w' => ∃ v, e = .returned v ∧ Own 5 .u8 w' w.heap.size v (textL k num s l) ∧ Below w.heap.size w w' := by
  have HL := hid H
  have HR := hid R
  have HS := hid hs
  have HN := hid hn
  have HU := hid hnum
  have HA := hid h
  clear H R hs h
  obtain ⟨X, hX⟩ : ∃ X, X = textL k num s l := ⟨_, rfl⟩
  have HX := hid hX
  clear hX
  rw [← HX.out]
  go_enter Try.func6, Try.ntmps6
  go_upto_region 1 with fail
  generalize hw1 : World.alloc w _ = w1
  have B1 := hid (show Blk w1 w.heap.size 26 (tx k num s (.slice A n cap)) by rw [← hw1]; exact Blk.new _ _ _)
  have hb := hid (show Below w.heap.size w w1 by rw [← hw1]; exact (Below.refl _ _).alloc (Nat.le_refl _) _)
  have A1 := hid (HA.out.on hb.out)
  clear hw1 HA
  have c0 := tx_0 B1.out
  have c1 := tx_1 B1.out
  have c2 := tx_66 B1.out
  have c3 := hid (tx_sec B1.out)
  rcases five k with h5 | h5 | h5 | h5 | h5
  · have t5 : (k : Int) % 5 = 0 := by omega
    go_wp2_with ((with_reducible apply ldAm tS); rfl; exact c3.out)
    refine (HL.out.leafText num HU.out s HS.out w1).mono ?_
    rintro e w2 ⟨v, rfl, o2, h2⟩
    have O2 := hid (ownDown o2 hb.out.size)
    have b2 := hid (hb.out.trans (h2.mono hb.out.size))
    have EX := hid (show X = numT 76 num s by rw [HX.out]; unfold textL; simp only [h5])
    clear o2 h2 c0 c1 c2 c3 B1 hb A1
    go_wp2_with fail
    go_ret
    exact ⟨_, rfl, by rw [EX.out]; exact O2.out, b2.out⟩
  · have t5 : (k : Int) % 5 = 1 := by omega
    go_wp2_with ((with_reducible apply ldAm tS); rfl; exact c3.out)
    refine (HR.out.nodeText num HU.out s HS.out w1).mono ?_
    rintro e w2 ⟨v, rfl, o2, h2⟩
    have O2 := hid (ownDown o2 hb.out.size)
    have b2 := hid (hb.out.trans (h2.mono hb.out.size))
    have EX := hid (show X = numT 78 num s by rw [HX.out]; unfold textL; simp only [h5])
    clear o2 h2 c0 c1 c2 c3 B1 hb A1
    go_wp2_with fail
    go_ret
    exact ⟨_, rfl, by rw [EX.out]; exact O2.out, b2.out⟩
  · have t5 : (k : Int) % 5 = 2 := by omega
    go_wp2_with ((with_reducible apply ldAm tS); rfl; exact c3.out)
    refine (HL.out.rootText A l n cap HN.out w1 A1.out).mono ?_
    rintro e w2 ⟨v, rfl, o2, h2⟩
    have O2 := hid (ownDown o2 hb.out.size)
    have b2 := hid (hb.out.trans (h2.mono hb.out.size))
    have EX := hid (show X = plainT 82 l by rw [HX.out]; unfold textL; simp only [h5])
    clear o2 h2 c0 c1 c2 c3 B1 hb A1
    go_wp2_with fail
    go_ret
    exact ⟨_, rfl, by rw [EX.out]; exact O2.out, b2.out⟩
  · have t5 : (k : Int) % 5 = 3 := by omega
    go_wp2_with ((with_reducible apply ldAm tS); rfl; exact c3.out)
    refine (HR.out.headText A l n cap HN.out w1 A1.out).mono ?_
    rintro e w2 ⟨v, rfl, o2, h2⟩
    have O2 := hid (ownDown o2 hb.out.size)
    have b2 := hid (hb.out.trans (h2.mono hb.out.size))
    have EX := hid (show X = plainT 72 l by rw [HX.out]; unfold textL; simp only [h5])
    clear o2 h2 c0 c1 c2 c3 B1 hb A1
    go_wp2_with fail
    go_ret
    exact ⟨_, rfl, by rw [EX.out]; exact O2.out, b2.out⟩
  · have t5 : (k : Int) % 5 = 4 := by omega
    go_wp2_with ((with_reducible apply ldAm tS); rfl; exact c3.out)
    refine (HR.out.bodyText A l n cap HN.out w1 A1.out).mono ?_
    rintro e w2 ⟨v, rfl, o2, h2⟩
    have O2 := hid (ownDown o2 hb.out.size)
    have b2 := hid (hb.out.trans (h2.mono hb.out.size))
    have EX := hid (show X = plainT 66 l by rw [HX.out]; unfold textL; simp only [h5])
    clear o2 h2 c0 c1 c2 c3 B1 hb A1
    go_wp2_with fail
    go_ret
    exact ⟨_, rfl, by rw [EX.out]; exact O2.out, b2.out⟩
end TgP
end Go.Proofs.Ytmbhibilmedjmaa
set_option maxRecDepth 100000
namespace Go.Proofs.Ytmbhibilmedjmaa
open Go.RowKit
section
variable {P : Program} {ops : Array Oper}
theorem wp_region_new1 {id : Nat} {Q : Exit → Act → World → Prop} {C : World → Prop} {a : Act} {w : World} {l : List Oper} (n : Nat) (T : TypeId) (z : Array Value) (d1 : Tmp) {t1 : TypeId} {p1 : String} {e1 : Array Edge}
    (hl1 : l[n]? = some ⟨some d1, .alloc T, t1, p1, e1, none⟩)
    (hm : P.follows .mixedOrders = true) (ht : tidy l.toArray = true) (hB : tailB l.toArray (n + 1) = true)
    (ha : ∀ w, (Instr.alloc T true (.tuple #[])).run P w = .ok (.pointer (some ⟨w.heap.size, 0, none⟩)) (w.alloc (.cells z T)))
    (hC : C w.drew) (hCa : ∀ w, C w → C (w.alloc (.cells z T))) (hCs : ∀ w', C w' → w.heap.size ≤ w'.heap.size)
    (h : wpB P l.toArray C (fun a' => ∀ b1 w', C w' → Blk w' b1 T z → w.heap.size ≤ b1 →
      wpList P l.toArray Q (l.drop (n + 1)) (a'.put (some d1) (ptr b1)) w') (l.take n) a) : (Code.region id l.toArray true).wp P Q a w := by
  obtain ⟨vals, hq, hs⟩ := wpB_vals _ _ h
  have hln : n < l.length := (List.getElem?_eq_some_iff.1 hl1).1
  have hlen : (l.take n).length = n := by rw [List.length_take]; omega
  let V : Nat → Nat → Value := fun γ i => if i = n then ptr γ else vals i
  have hV : ∀ γ i, i < n → V γ i = vals i := fun γ i hi => by show (if _ then _ else _) = _; rw [if_neg (by omega)]
  have hfr : ∀ γ i, i ≤ n → lexF (l.take (n + 1)) (V γ) i a = lexF (l.take n) vals i a := fun γ i hi => lexF_congr fun j hj =>
    ⟨by rw [List.getElem?_take_of_lt (by omega), List.getElem?_take_of_lt (by omega)], hV γ j (by omega)⟩
  refine region_core (Γ := Nat) (C := fun γ L w' => C w' ∧ (L.getD n false = true → Blk w' γ T z ∧ w.heap.size ≤ γ)) (n + 1) hm ht hB 0
    ⟨hC, (fun h => by rw [getD_replicate_false] at h; cases h)⟩ V ?_ ?_
  · intro i o hi γ L w' hsz hr ⟨hC', g1⟩
    have hilt : i < n + 1 := by
      have := (List.getElem?_eq_some_iff.1 hi).1
      rw [List.length_take] at this; omega
    rw [List.getElem?_take_of_lt hilt] at hi
    have hun := getD_both (mem_ready.1 hr).1
    rcases Nat.lt_or_ge i n with hin | hin
    · have hset : ∀ k, k ≠ i → (L.setIfInBounds i true).getD k false = L.getD k false := fun k hk => getD_set_ne false (Ne.symm hk)
      refine ⟨γ, fun _ _ => rfl, ?_⟩
      rw [hfr γ i (by omega), hV γ i hin]
      simp only [hset n (by omega)]
      rcases hs i o (by rw [List.getElem?_take_of_lt hin]; exact hi) with ⟨h1, h2⟩ | ⟨h1, h2⟩
      · exact .inl ⟨h1, gives_mono (h2 w' hC') fun w'' ⟨h3, h4⟩ => ⟨h3, fun e => ⟨(g1 e).1.below h4 (g1 e).1.lt, (g1 e).2⟩⟩⟩
      · exact .inr ⟨h1, h2, hC', g1⟩
    · obtain rfl : i = n := by omega
      obtain rfl : _ = o := Option.some.inj (hl1.symm.trans hi)
      have hw : ∀ b : Act, (execOp b.eval ⟨some d1, .alloc T, t1, p1, e1, none⟩).run P w' = .ok (.value (.pointer (some ⟨w'.heap.size, 0, none⟩))) (w'.alloc (.cells z T)) := fun b => by
        simp only [execOp, Sem.run_bind, ha w', Result.andThen_ok, Sem.run_pure]
      refine ⟨w'.heap.size, fun j hj => ?_, .inl ⟨rfl, ?_⟩⟩
      · have hjn : j ≠ i := fun e => by subst e; rw [hun] at hj; cases hj
        simp only [V, if_neg hjn]
      · refine gives_value (w' := w'.alloc (.cells z T)) ?_ ?_
        · rw [hw]
          simp only [V, if_pos]; rfl
        · exact ⟨hCa _ hC', fun _ => ⟨Blk.new _ _ _, hCs _ hC'⟩⟩
  · intro γ L w' hall ⟨hC', g1⟩
    have h1 := hall n (by omega)
    have hl2' : (l.take (n + 1)).length = n + 1 := by rw [List.length_take]; omega
    rw [hl2']
    have hput : lexF (l.take (n + 1)) (V γ) (n + 1) a = (lexF (l.take n) vals n a).put (some d1) (ptr γ) := by
      rw [lexF, hfr γ n (Nat.le_refl n), List.getElem?_take_of_lt (by omega), hl1]
      simp only [V, if_pos, Option.bind_some]
    rw [hput]
    rw [hlen] at hq
    exact hq γ w' hC' (g1 h1).1 (g1 h1).2
end
end Go.Proofs.Ytmbhibilmedjmaa
set_option maxRecDepth 100000
namespace Go.Proofs.Ytmbhibilmedjmaa
open Go.ChangeShapes Go.WideShapes Go.ChangeAt Go.RowKit
section
variable {ops : Array Oper} {a : Act} {rest : List Oper} {dst : Option Tmp} {ty : TypeId} {pos : String} {after : Array Edge} {x : Operand} {g o n : Nat} {f : Nat → Nat} {T : TypeId} {C : World → Prop} {Qk : Act → Prop} {gd : Option (Nat × Bool)}
theorem bldA (hT : ArT T n) (hwt : Region.wanted ⟨dst, .load T x, ty, pos, after, gd⟩ (yielded ops a.tmps) = true) (hx : a.eval x = .pointer (some ⟨g, o, none⟩)) (hb : ∀ w, C w → w.rangeAt g o (ar n f).toList) (h : wpB Try.prog ops C Qk rest (a.put dst (.agg (ar n f)))) :
    wpB Try.prog ops C Qk (⟨dst, .load T x, ty, pos, after, gd⟩ :: rest) a :=
  wpB_val hwt (fun w hw => gives_value (w' := w) (by simp only [execOp, hx, Sem.run_bind, run_ldm hT (hb w hw), Result.andThen_ok, Sem.run_pure]) ⟨hw, Below.refl _ _⟩) h
end
end Go.Proofs.Ytmbhibilmedjmaa
set_option maxRecDepth 100000
namespace Go.Proofs.Ytmbhibilmedjmaa
open Go.ChangeShapes Go.WideShapes Go.ChangeAt Go.RowKit
attribute [local go_sem] Gives
/-- A type of n cells, one behind the other. -/
structure RowT (T : TypeId) (n : Nat) : Prop where
  size : (Try.prog.info? T).map (·.size) = some n
  desc : ∃ d, Try.prog.underlying T = some d ∧ d.isRow = true
section
variable {ops : Array Oper} {Q : Exit → Act → World → Prop} {a : Act} {w : World} {rest : List Oper} {dst : Option Tmp} {ty : TypeId} {pos : String} {after : Array Edge} {x y : Operand} {g o n : Nat} {cs : Array Value} {T : TypeId} {C : World → Prop} {Qk : Act → Prop} {gd : Option (Nat × Bool)}
theorem run_ldR (hT : RowT T cs.size) (hb : w.rangeAt g o cs.toList) : (Instr.loadAt T (.pointer (some ⟨g, o, none⟩))).run Try.prog w = .ok (.agg cs) w := by
  obtain ⟨d, h1, h2⟩ := hT.desc
  have := run_loadAt_mid (P := Try.prog) w g o T cs.toList _ hb h1 h2 (hT.size.trans (by rw [Array.length_toList]))
  rwa [Array.toArray_toList] at this
theorem Blk.whole {t : TypeId} (h : Blk w g t cs) : w.rangeAt g 0 cs.toList := fun j v hj => by
  rw [Nat.zero_add, h.cell]; rwa [Array.getElem?_toList] at hj
theorem ldR (hT : RowT T cs.size) (hx : a.eval x = .pointer (some ⟨g, o, none⟩)) (hb : w.rangeAt g o cs.toList) (h : wpList Try.prog ops Q rest (a.put dst (.agg cs)) w) :
    wpList Try.prog ops Q (⟨dst, .load T x, ty, pos, after, none⟩ :: rest) a w := by
  obtain ⟨d, h1, h2⟩ := hT.desc
  exact step_load_mid hb h1 h2 (hT.size.trans (by rw [Array.length_toList])) hx (by rw [Array.toArray_toList]; exact h)
theorem stR {t : TypeId} {old : Array Value} (hT : RowT T cs.size) (hx : a.eval x = .pointer (some ⟨g, 0, none⟩)) (hy : a.eval y = .agg cs) (hb : Blk w g t old) (hs : old.size = cs.size) (h1 : cs.all (·.oneCell') = true) (h : wpList Try.prog ops Q rest (a.put dst undef) (w.setRow g cs)) :
    wpList Try.prog ops Q (⟨dst, .store T x y, ty, pos, after, none⟩ :: rest) a w :=
  step_store_row hb hT.size hs h1 hx hy h
theorem kldR (hT : RowT T cs.size) (hwt : Region.wanted ⟨dst, .load T x, ty, pos, after, gd⟩ (yielded ops a.tmps) = true) (hx : a.eval x = .pointer (some ⟨g, o, none⟩)) (hb : ∀ w, C w → w.rangeAt g o cs.toList) (h : wpK Try.prog ops C Qk rest (a.put dst (.agg cs))) :
    wpK Try.prog ops C Qk (⟨dst, .load T x, ty, pos, after, gd⟩ :: rest) a :=
  wpK_val hwt (fun w hw => gives_value (w' := w) (by simp only [execOp, hx, Sem.run_bind, run_ldR hT (hb w hw), Result.andThen_ok, Sem.run_pure]) hw) h
theorem bldR (hT : RowT T cs.size) (hwt : Region.wanted ⟨dst, .load T x, ty, pos, after, gd⟩ (yielded ops a.tmps) = true) (hx : a.eval x = .pointer (some ⟨g, o, none⟩)) (hb : ∀ w, C w → w.rangeAt g o cs.toList) (h : wpB Try.prog ops C Qk rest (a.put dst (.agg cs))) :
    wpB Try.prog ops C Qk (⟨dst, .load T x, ty, pos, after, gd⟩ :: rest) a :=
  wpB_val hwt (fun w hw => gives_value (w' := w) (by simp only [execOp, hx, Sem.run_bind, run_ldR hT (hb w hw), Result.andThen_ok, Sem.run_pure]) ⟨hw, Below.refl _ _⟩) h
end
end Go.Proofs.Ytmbhibilmedjmaa
set_option maxRecDepth 100000
namespace Go.Proofs.Ytmbhibilmedjmaa
open Go.ChangeShapes Go.WideShapes Go.ChangeAt Go.RowKit Go.Deep
theorem choose_lt {α : Type} [Inhabited α] {n : Nat} {P : Nat → α → Prop} (h : ∀ k, k < n → ∃ a, P k a) : ∃ f : Nat → α, ∀ k, k < n → P k (f k) :=
  ⟨fun k => if hk : k < n then (h k hk).choose else default, fun k hk => by simp only [hk, dif_pos]; exact (h k hk).choose_spec⟩
theorem u8_wf {a : Int} (h : (Lit.int .u8 a).wf = true) : ∃ n : Nat, a = n ∧ n < 256 := by
  simp [Lit.wf, IntKind.min, IntKind.max, IntKind.bits, IntKind.signed] at h
  exact ⟨a.toNat, by omega, by omega⟩
theorem cells_u8 : Try.prog.cellsOf 5 = 1 := by kernel_rfl
end Go.Proofs.Ytmbhibilmedjmaa
set_option maxRecDepth 100000
namespace Go.Proofs.Ytmbhibilmedjmaa
open Go.ChangeShapes Go.WideShapes Go.ChangeAt Go.RowKit Go.Deep
section
variable {H : Type} {enc : TypeId × Value → H} {w : World} {base : Nat} {spare : Nat → Bool} {held : Bool}
theorem trod_ar {T : TypeId} {n : Nat} (hT : Try.prog.underlying T = some (.array n 5)) (hc : Try.prog.cellsOf T = n) {fuel : Nat} {cs : List Value} {x : DataW H × List MemPlace} (h : DataW.trod enc Try.prog w base spare held fuel T cs = some x) : ∃ f : Nat → Nat, (∀ k, f k < 256) ∧ cs = (ar n f).toList := by
  obtain ⟨xs, m, rfl, rfl, hlen, hxl, hx⟩ := DataW.trod_array hT h
  rw [hc] at hlen
  have hk : ∀ k, k < n → ∃ n : Nat, n < 256 ∧ cs[k]? = some (.int .u8 n) := fun k hk => by
    have h1 := hx k hk
    rw [cells_u8, Nat.mul_one, List.getElem?_eq_getElem (by omega)] at h1
    obtain ⟨n, e1, e2, wf⟩ := DataW.trod_int Try.underlying5 h1
    obtain ⟨n, rfl, hn⟩ := u8_wf wf
    refine ⟨n, hn, ?_⟩
    have : ((cs.drop k).take 1)[0]? = some (.int .u8 n) := by rw [e1]; rfl
    rw [List.getElem?_take_of_lt (by omega), List.getElem?_drop] at this
    exact this
  obtain ⟨f, hf⟩ := choose_lt hk
  refine ⟨fun k => if k < n then f k else 0, fun k => ?_, ?_⟩
  · by_cases h : k < n
    · simp only [h, if_true]; exact (hf k h).1
    · simp [h]
  · apply List.ext_getElem?
    intro k
    have e : (ar n fun k => if k < n then f k else 0).toList[k]? = if k < n then some (.int .u8 ((if k < n then f k else 0 : Nat) : Int)) else none := by
      rw [Array.getElem?_toList]
      exact get_row k
    rw [e]
    by_cases h : k < n
    · rw [if_pos h, if_pos h]; exact (hf k h).2
    · rw [if_neg h, List.getElem?_eq_none (by omega)]
set_option maxRecDepth 100000 in
theorem open_ar {T : TypeId} {n : Nat} (hT : Try.prog.underlying T = some (.array n 5)) (hc : Try.prog.cellsOf T = n) {r : Reach} {b0 : Nat} {v : Value} {d : DataW H} {p : List MemPlace} (hv : Value.okWide Try.prog w r b0 T v) (h : DataW.Trod enc Try.prog w base spare held T v d p) :
    ∃ f : Nat → Nat, (∀ k, f k < 256) ∧ v = .agg (ar n f) := by
  have hv' : ∃ cs, v = .agg cs := by
    simp only [Value.okWide, hT] at hv
    obtain ⟨cs, h1, _⟩ := hv
    exact ⟨cs, h1⟩
  obtain ⟨cs, rfl⟩ := hv'
  obtain ⟨fuel, hf⟩ := h
  obtain ⟨f, h1, h2⟩ := trod_ar hT hc hf
  refine ⟨f, h1, ?_⟩
  have : cs = ar n f := by
    apply Array.ext'
    exact h2
  rw [this]
end
end Go.Proofs.Ytmbhibilmedjmaa
set_option maxRecDepth 100000
namespace Go.Proofs.Ytmbhibilmedjmaa
open Go.ChangeShapes Go.WideShapes Go.ChangeAt Go.RowKit Go.Deep
section
variable {H : Type} {enc : TypeId × Value → H} {w : World} {base : Nat} {spare : Nat → Bool} {held : Bool}
set_option maxRecDepth 100000 in
theorem open_byts {r : Reach} {b0 : Nat} {v : Value} {d : DataW H} {p : List MemPlace} (hv : Value.okWide Try.prog w r b0 24 v) (h : DataW.Trod enc Try.prog w base spare held 24 v d p) :
    ∃ (A : Option Addr) (l : List Nat) (n cap : Nat), v = .slice A n cap ∧ l.length = n ∧ n ≤ cap ∧ cap ≤ maxLen ∧ B256 l ∧ Byt w w.heap.size A l ∧ (A = none → n = 0 ∧ cap = 0) := by
  obtain ⟨A, n, cap, rfl⟩ := okWide_slice Try.underlying24 hv
  obtain ⟨fuel, hf⟩ := h
  rcases open_ints Try.underlying24 Try.underlying5 cells_u8 hf with ⟨hcs, _⟩ | ⟨a, len, cap', zs, hcs, _, hl, hm, hz, _, hcell, hwz⟩
  · simp [Value.cells] at hcs
    obtain ⟨rfl, rfl, rfl⟩ := hcs
    exact ⟨none, [], 0, 0, rfl, rfl, Nat.le_refl _, Nat.zero_le _, (fun x hx => by cases hx), Byt.none rfl, fun _ => ⟨rfl, rfl⟩⟩
  · simp [Value.cells] at hcs
    obtain ⟨rfl, rfl, rfl⟩ := hcs
    have hnz : n ≤ zs.length := by rw [hz]; split <;> omega
    have hlen : ((zs.take n).map Int.toNat).length = n := by rw [List.length_map, List.length_take]; omega
    have hat : ∀ i, i < n → ∃ k : Nat, zs.getD i 0 = k ∧ k < 256 ∧ ((zs.take n).map Int.toNat).getD i 0 = k := fun i hi => by
      have hi' : i < zs.length := by omega
      have hg : zs.getD i 0 = zs[i] := by rw [List.getD_eq_getElem?_getD, List.getElem?_eq_getElem hi']; rfl
      obtain ⟨k, hk, hk2⟩ := u8_wf (hwz zs[i] (List.getElem_mem hi'))
      refine ⟨k, hg.trans hk, hk2, ?_⟩
      rw [List.getD_eq_getElem?_getD, List.getElem?_map, List.getElem?_take_of_lt hi, List.getElem?_eq_getElem hi', hk]
      rfl
    refine ⟨some a, (zs.take n).map Int.toNat, n, cap, rfl, hlen, hl, hm, fun x hx => ?_, fun hn => ?_, fun h => by cases h⟩
    · obtain ⟨i, hi⟩ := List.getElem?_of_mem hx
      have hin : i < n := by have := (List.getElem?_eq_some_iff.1 hi).1; omega
      obtain ⟨k, _, hk, he⟩ := hat i hin
      rw [List.getD_eq_getElem?_getD, hi] at he
      have : x = k := he
      omega
    · rw [hlen] at hn
      have h0 := hcell 0 (by omega)
      have hsp : a.spot = none := by
        simp only [Addr.add, if_true] at h0
        unfold World.cell? at h0
        split at h0
        · cases hs : a.spot with
          | none => rfl
          | some s => simp [hs] at h0
        · cases h0
      have hblk : a.block < w.heap.size := by
        have := World.block_lt_of_cell? w _ h0
        simpa [Addr.add] using this
      obtain ⟨b, o, sp⟩ := a
      subst hsp
      refine ⟨b, o, rfl, hblk, fun i hi => ?_⟩
      rw [hlen] at hi
      obtain ⟨k, h1, _, h2⟩ := hat i hi
      have h3 := hcell i (by omega)
      rw [Addr.add_mid, h1] at h3
      rw [h3, h2]
end
end Go.Proofs.Ytmbhibilmedjmaa
set_option maxRecDepth 100000
namespace Go.Proofs.Ytmbhibilmedjmaa
open Go.ChangeShapes Go.WideShapes Go.ChangeAt Go.RowKit Go.Deep
/-- A slice of slices of bytes that came in; a part that is nil has no bytes and no room. -/
def PrtsN (w : World) (B : Nat) (A : Option Addr) (ls : List (List Nat)) : Prop :=
  0 < ls.length → ∃ b o, A = some ⟨b, o, none⟩ ∧ b < B ∧ ∀ i, i < ls.length → ∃ A' c, w.cell? ⟨b, o + i, none⟩ = some (.slice A' (ls.getD i []).length c) ∧ (ls.getD i []).length ≤ c ∧ c ≤ maxLen ∧ Byt w B A' (ls.getD i []) ∧ (A' = none → (ls.getD i []).length = 0 ∧ c = 0)
theorem PrtsN.below {B B' : Nat} {w w' : World} {A : Option Addr} {ls : List (List Nat)} (h : PrtsN w B A ls) (hb : Below B' w w') (hB : B ≤ B') : PrtsN w' B A ls := fun hn => by
  obtain ⟨b, o, rfl, hl, hr⟩ := h hn
  refine ⟨b, o, rfl, hl, fun i hi => ?_⟩
  obtain ⟨A', c, h1, h2, h3, h4, h5⟩ := hr i hi
  exact ⟨A', c, (hb.cell (p := ⟨b, o + i, none⟩) (by show b < B'; omega)).trans h1, h2, h3, h4.below hb hB, h5⟩
theorem PrtsN.more {w : World} {B B' : Nat} {A : Option Addr} {ls : List (List Nat)} (h : PrtsN w B A ls) (hB : B ≤ B') : PrtsN w B' A ls := fun hn => by
  obtain ⟨b, o, rfl, hl, hr⟩ := h hn
  refine ⟨b, o, rfl, by omega, fun i hi => ?_⟩
  obtain ⟨A', c, h1, h2, h3, h4, h5⟩ := hr i hi
  exact ⟨A', c, h1, h2, h3, h4.more hB, h5⟩
theorem cells_sl : Try.prog.cellsOf 24 = 1 := by kernel_rfl
section
variable {H : Type} {enc : TypeId × Value → H} {w : World} {base : Nat} {spare : Nat → Bool} {held : Bool}
theorem trod_byts {fuel : Nat} {cs : List Value} {x : DataW H × List MemPlace} (h : DataW.trod enc Try.prog w base spare held fuel 24 cs = some x) :
    ∃ (A : Option Addr) (l : List Nat) (cap : Nat), cs = [.slice A l.length cap] ∧ l.length ≤ cap ∧ cap ≤ maxLen ∧ B256 l ∧ Byt w w.heap.size A l ∧ (A = none → l.length = 0 ∧ cap = 0) := by
  rcases open_ints Try.underlying24 Try.underlying5 cells_u8 h with ⟨hcs, _⟩ | ⟨a, n, cap, zs, hcs, _, hl, hm, hz, _, hcell, hwz⟩
  · subst hcs
    exact ⟨none, [], 0, rfl, Nat.le_refl _, Nat.zero_le _, (fun x hx => by cases hx), Byt.none rfl, fun _ => ⟨rfl, rfl⟩⟩
  · subst hcs
    have hnz : n ≤ zs.length := by rw [hz]; split <;> omega
    have hlen : ((zs.take n).map Int.toNat).length = n := by rw [List.length_map, List.length_take]; omega
    have hat : ∀ i, i < n → ∃ k : Nat, zs.getD i 0 = k ∧ k < 256 ∧ ((zs.take n).map Int.toNat).getD i 0 = k := fun i hi => by
      have hi' : i < zs.length := by omega
      have hg : zs.getD i 0 = zs[i] := by rw [List.getD_eq_getElem?_getD, List.getElem?_eq_getElem hi']; rfl
      obtain ⟨k, hk, hk2⟩ := u8_wf (hwz zs[i] (List.getElem_mem hi'))
      refine ⟨k, hg.trans hk, hk2, ?_⟩
      rw [List.getD_eq_getElem?_getD, List.getElem?_map, List.getElem?_take_of_lt hi, List.getElem?_eq_getElem hi', hk]
      rfl
    refine ⟨some a, (zs.take n).map Int.toNat, cap, by rw [hlen], by rw [hlen]; exact hl, hm, fun x hx => ?_, fun hn => ?_, fun h => by cases h⟩
    · obtain ⟨i, hi⟩ := List.getElem?_of_mem hx
      have hin : i < n := by have := (List.getElem?_eq_some_iff.1 hi).1; omega
      obtain ⟨k, _, hk, he⟩ := hat i hin
      rw [List.getD_eq_getElem?_getD, hi] at he
      have : x = k := he
      omega
    · rw [hlen] at hn
      have h0 := hcell 0 (by omega)
      have hsp : a.spot = none := by
        simp only [Addr.add, if_true] at h0
        unfold World.cell? at h0
        split at h0
        · cases hs : a.spot with
          | none => rfl
          | some s => simp [hs] at h0
        · cases h0
      have hblk : a.block < w.heap.size := by
        have := World.block_lt_of_cell? w _ h0
        simpa [Addr.add] using this
      obtain ⟨b, o, sp⟩ := a
      subst hsp
      refine ⟨b, o, rfl, hblk, fun i hi => ?_⟩
      rw [hlen] at hi
      obtain ⟨k, h1, _, h2⟩ := hat i hi
      have h3 := hcell i (by omega)
      rw [Addr.add_mid, h1] at h3
      rw [h3, h2]
set_option maxRecDepth 100000 in
theorem open_prts {r : Reach} {b0 : Nat} {v : Value} {d : DataW H} {p : List MemPlace} (hv : Value.okWide Try.prog w r b0 63 v) (h : DataW.Trod enc Try.prog w base spare held 63 v d p) :
    ∃ (A : Option Addr) (ls : List (List Nat)) (n cap : Nat), v = .slice A n cap ∧ ls.length = n ∧ n ≤ cap ∧ cap ≤ maxLen ∧ (∀ l ∈ ls, B256 l) ∧ PrtsN w w.heap.size A ls ∧ (A = none → n = 0 ∧ cap = 0) := by
  obtain ⟨A, n, cap, rfl⟩ := okWide_slice Try.underlying63 hv
  obtain ⟨fuel, hf⟩ := h
  rcases open_slice Try.underlying63 hf with ⟨hcs, _⟩ | ⟨a, len, cap', m, fu, D, Plc, hcs, hb, hl, hm, hmm, hx, hi⟩
  · simp [Value.cells] at hcs
    obtain ⟨rfl, rfl, rfl⟩ := hcs
    exact ⟨none, [], 0, 0, rfl, rfl, Nat.le_refl _, Nat.zero_le _, (fun x hx => by cases hx), (fun h => absurd h (by simp)), fun _ => ⟨rfl, rfl⟩⟩
  · simp [Value.cells] at hcs
    obtain ⟨rfl, rfl, rfl⟩ := hcs
    have hnm : n ≤ m := by rw [hmm]; split <;> omega
    have one : ∀ i, i < n → ∃ y : List Nat, B256 y ∧ ∃ (A' : Option Addr) (c : Nat), w.cell? (a.add i) = some (.slice A' y.length c) ∧ y.length ≤ c ∧ c ≤ maxLen ∧ Byt w w.heap.size A' y ∧ (A' = none → y.length = 0 ∧ c = 0) := fun i hin => by
      obtain ⟨cs', hc, ht⟩ := hi i (by omega)
      obtain ⟨A', y, c, e, h1, h2, h3, h4, h5⟩ := trod_byts ht
      subst e
      have h6 := (World.cells?_some hc).2.2 0 (by rw [cells_sl]; omega)
      rw [Go.Deep.add_add, cells_sl, Nat.mul_one, Nat.add_zero] at h6
      exact ⟨y, h3, A', c, h6, h1, h2, h4, h5⟩
    obtain ⟨F, hF⟩ := choose_lt one
    have hg : ∀ i, i < n → (((List.range n).map F).getD i []) = F i := fun i hi => by
      rw [List.getD_eq_getElem?_getD, List.getElem?_map, List.getElem?_range hi]; rfl
    refine ⟨some a, (List.range n).map F, n, cap, rfl, by simp, hl, hm, fun l hl2 => ?_, fun hn => ?_, fun h => by cases h⟩
    · obtain ⟨i, hi2, rfl⟩ := List.mem_map.1 hl2
      exact (hF i (List.mem_range.1 hi2)).1
    · have hn' : 0 < n := by simpa using hn
      obtain ⟨_, A0, c0, h0, _⟩ := hF 0 hn'
      have hsp : a.spot = none := by
        simp only [Addr.add, if_true] at h0
        unfold World.cell? at h0
        split at h0
        · cases hs : a.spot with
          | none => rfl
          | some s => simp [hs] at h0
        · cases h0
      have hblk : a.block < w.heap.size := by
        have := World.block_lt_of_cell? w _ h0
        simpa [Addr.add] using this
      obtain ⟨b, o, sp⟩ := a
      subst hsp
      refine ⟨b, o, rfl, hblk, fun i hi2 => ?_⟩
      have hin : i < n := by simpa using hi2
      obtain ⟨_, A', c, h1, h2, h3, h4, h5⟩ := hF i hin
      rw [Addr.add_mid] at h1
      rw [hg i hin]
      exact ⟨A', c, h1, h2, h3, h4, h5⟩
end
end Go.Proofs.Ytmbhibilmedjmaa
set_option maxRecDepth 100000
namespace Go.Proofs.Ytmbhibilmedjmaa
open Go.ChangeShapes Go.WideShapes Go.ChangeAt Go.RowKit Go.Deep
attribute [local go_sem] Gives GivesE
namespace TgP
theorem tTx : RowT 26 67 := ⟨by kernel_rfl, ⟨_, Try.underlying26, rfl⟩⟩
theorem tx_size {k : Nat} {num : Int} {s : Nat → Nat} {v : Value} : (tx k num s v).size = 67 := size_row
section
variable {a : Act} {w : World} {dst : Option Tmp} {ty : TypeId} {pos : String} {after : Array Edge} {x : Operand} {gd : Option (Nat × Bool)} {R : Value → World → Prop} {g k : Nat} {num : Int} {s : Nat → Nat} {v : Value} {t : TypeId}
theorem gE_ldTx (hx : a.eval x = .pointer (some ⟨g, 0, none⟩)) (hb : Blk w g t (tx k num s v)) (hR : R (.agg (tx k num s v)) w) : GivesE Try.prog ⟨dst, .load 26 x, ty, pos, after, gd⟩ a w R := by
  have h1 := run_ldR (T := 26) (cs := tx k num s v) (by rw [tx_size]; exact tTx) hb.whole
  unfold GivesE
  simp only [execOp, hx, Sem.run_bind, h1, Result.andThen_ok, Sem.run_pure]
  exact hR
end
section
variable {ops : Array Oper} {Q : Exit → Act → World → Prop} {a : Act} {w : World} {rest : List Oper} {dst : Option Tmp} {ty r T : TypeId} {pos : String} {after : Array Edge} {x y : Operand} {g o n : Nat} {f h' : Nat → Nat} {gd : Option (Nat × Bool)}
/-- A row of bytes loaded, behind a guard. -/
theorem ldAg (hT : ArT T n) (hw : Region.wanted ⟨dst, .load T x, ty, pos, after, gd⟩ (yielded ops a.tmps) = true) (hx : a.eval x = .pointer (some ⟨g, o, none⟩)) (hb : w.rangeAt g o (ar n f).toList) (h : wpList Try.prog ops Q rest (a.put dst (.agg (ar n f))) w) :
    wpList Try.prog ops Q (⟨dst, .load T x, ty, pos, after, gd⟩ :: rest) a w := by
  have hg : Gives Try.prog ⟨dst, .load T x, ty, pos, after, gd⟩ a w (.agg (ar n f)) fun w' => w' = w := gives_value (w' := w) (by simp only [execOp, hx, Sem.run_bind, run_ldm hT hb, Result.andThen_ok, Sem.run_pure]) rfl
  rw [wpList, if_pos hw]
  exact .inl (wp_of_gives hg fun w' e => by subst e; exact h)
/-- Two rows of bytes compared, behind a guard. -/
theorem weqAg (b : Bool) (hT : Try.prog.underlying T = some (.array n 5)) (hg : Try.prog.eqGuardType Try.prog.depth T = false) (hw : Region.wanted ⟨dst, .binOp .eql T x y r, ty, pos, after, gd⟩ (yielded ops a.tmps) = true) (hx : a.eval x = .agg (ar n f)) (hy : a.eval y = .agg (ar n h')) (hb : eqA n f h' = b)
    (h : wpList Try.prog ops Q rest (a.put dst (.bool b)) w) : wpList Try.prog ops Q (⟨dst, .binOp .eql T x y r, ty, pos, after, gd⟩ :: rest) a w := by
  have hgv : Gives Try.prog ⟨dst, .binOp .eql T x y r, ty, pos, after, gd⟩ a w (.bool b) fun w' => w' = w := gives_value (w' := w) (by rw [exec_eqU hT hg hx hy, hb]) rfl
  rw [wpList, if_pos hw]
  exact .inl (wp_of_gives hgv fun w' e => by subst e; exact h)
end
theorem cells_tx : Try.prog.cellsOf 26 = 67 := by kernel_rfl
theorem cells_tag17 : Try.prog.cellsOf 31 = 32 := by kernel_rfl
theorem cells_tk8 : Try.prog.cellsOf 5 = 1 := by kernel_rfl
theorem cells_tin : Try.prog.cellsOf 3 = 1 := by kernel_rfl
theorem cells_tse : Try.prog.cellsOf 23 = 64 := by kernel_rfl
theorem cells_tsl : Try.prog.cellsOf 24 = 1 := by kernel_rfl
theorem at_oneT {l : List Value} {o : Nat} {v : Value} (h : (l.drop o).take 1 = [v]) : l[o]? = some v := by
  have h1 : ((l.drop o).take 1)[0]? = some v := by rw [h]; rfl
  rwa [List.getElem?_take_of_lt (by omega), List.getElem?_drop] at h1
theorem at_arT {l : List Value} {o m j : Nat} {f : Nat → Nat} (h : (l.drop o).take m = (ar m f).toList) (hj : j < m) : l[o + j]? = some (.int .u8 (f j : Nat)) := by
  have h1 : ((l.drop o).take m)[j]? = some (.int .u8 (f j : Nat)) := by rw [h, Array.getElem?_toList, get_ar hj]
  rwa [List.getElem?_take_of_lt hj, List.getElem?_drop] at h1
theorem i64_wfT {a : Int} (h : (Lit.int .i64 a).wf = true) : -9223372036854775808 ≤ a ∧ a ≤ 9223372036854775807 := by
  simp [Lit.wf, IntKind.min, IntKind.max, IntKind.bits, IntKind.signed] at h
  exact ⟨by omega, by omega⟩
section
variable {H : Type} {enc : TypeId × Value → H} {w : World} {base : Nat} {spare : Nat → Bool} {held : Bool}
set_option maxRecDepth 100000 in
theorem open_text {r : Reach} {b0 : Nat} {v : Value} {d : DataW H} {p : List MemPlace} (hv : Value.okWide Try.prog w r b0 26 v) (h : DataW.Trod enc Try.prog w base spare held 26 v d p) :
    ∃ (k : Nat) (num : Int) (s : Nat → Nat) (A : Option Addr) (l : List Nat) (n cap : Nat), v = .agg (tx k num s (.slice A n cap)) ∧ k < 256 ∧ (-9223372036854775808 ≤ num ∧ num ≤ 9223372036854775807) ∧ (∀ i, s i < 256) ∧ Arg w A l n cap := by
  obtain ⟨cs, rfl, hsz⟩ := okWide_struct Try.underlying26 hv
  rw [cells_tx] at hsz
  obtain ⟨fuel, hf0⟩ := h
  obtain ⟨xs, n, _, _, hl, hlen, hf⟩ := DataW.trod_struct Try.underlying26 hf0
  match xs, hlen with
  | [y0, y1, y2, y3], _ =>
    have h0 : DataW.trod enc Try.prog w base spare held n 5 ((cs.toList.drop 0).take (Try.prog.cellsOf 5)) = some y0 := hf 0 _ rfl
    have h1 : DataW.trod enc Try.prog w base spare held n 3 ((cs.toList.drop 1).take (Try.prog.cellsOf 3)) = some y1 := hf 1 _ rfl
    have h2 : DataW.trod enc Try.prog w base spare held n 23 ((cs.toList.drop 2).take (Try.prog.cellsOf 23)) = some y2 := hf 2 _ rfl
    have h3 : DataW.trod enc Try.prog w base spare held n 24 ((cs.toList.drop 66).take (Try.prog.cellsOf 24)) = some y3 := hf 3 _ rfl
    rw [cells_tk8] at h0
    rw [cells_tin] at h1
    rw [cells_tse] at h2
    rw [cells_tsl] at h3
    obtain ⟨a0, e0, _, w0⟩ := DataW.trod_int Try.underlying5 h0
    obtain ⟨a1, e1, _, w1⟩ := DataW.trod_int Try.underlying3 h1
    obtain ⟨f, hf5, e2⟩ := trod_ar uS cells_tse h2
    obtain ⟨A, l, cap, e3, l1, l2, l3, l4, l5⟩ := trod_byts h3
    obtain ⟨k, rfl, hk⟩ := u8_wf w0
    refine ⟨k, a1, f, A, l, l.length, cap, ?_, hk, i64_wfT w1, hf5, ⟨rfl, l1, l2, l3, l5, l4⟩⟩
    have e : cs = tx k a1 f (.slice A l.length cap) := by
      apply Array.ext_getElem?
      intro j
      have r0 := at_oneT e0
      have r1 := at_oneT e1
      have r3 := at_oneT e3
      by_cases hj : j < 67
      · unfold tx
        rw [get_row_lt hj, ← Array.getElem?_toList]
        unfold txF
        by_cases c0 : j = 0
        · rw [if_pos c0, c0]; exact r0
        rw [if_neg c0]
        by_cases c1 : j = 1
        · rw [if_pos c1, c1]; exact r1
        rw [if_neg c1]
        by_cases c2 : j < 66
        · rw [if_pos c2]
          have := at_arT e2 (show j - 2 < 64 by omega)
          rwa [show 2 + (j - 2) = j by omega] at this
        · rw [if_neg c2]
          obtain rfl : j = 66 := by omega
          exact r3
      · rw [Array.getElem?_eq_none (by omega), Array.getElem?_eq_none (by rw [tx_size]; omega)]
    rw [e]
end
theorem str_beq {l m : List Nat} (hl : B256 l) (hm : B256 m) : ((str l).toList == (str m).toList) = decide (l = m) := by
  by_cases h : l = m
  · subst h; simp
  · rw [decide_eq_false h]
    exact toList_ne fun e => h (str_inj hl hm e)
theorem textL_256 {k : Nat} {num : Int} {s : Nat → Nat} {l : List Nat} (hs : ∀ i, s i < 256) (hl : B256 l) : B256 (textL k num s l) := by
  unfold textL
  split
  · exact numT_256 (by omega) _ hs
  · exact numT_256 (by omega) _ hs
  · exact plainT_256 (by omega) hl
  · exact plainT_256 (by omega) hl
  · exact plainT_256 (by omega) hl
set_option maxHeartbeats 400000 in
set_option maxRecDepth 100000 in
theorem apart_law17 (HL : LeafC) (HR : RestC) (k k' : Nat) (num num' : Int) (hn : -9223372036854775808 ≤ num ∧ num ≤ 9223372036854775807) (hn' : -9223372036854775808 ≤ num' ∧ num' ≤ 9223372036854775807) (s s' : Nat → Nat) (hs : ∀ i, s i < 256) (hs' : ∀ i, s' i < 256)
    (A : Option Addr) (l : List Nat) (n cap : Nat) (B : Option Addr) (l2 : List Nat) (m cap2 : Nat) (w : World) (hA : Arg w A l n cap) (hB : Arg w B l2 m cap2) :
    Calls Try.prog 3 #[.agg (tx k num s (.slice A n cap)), .agg (tx k' num' s' (.slice B m cap2))] w fun e w' => e = .returned (.bool true) ∧ Below w.heap.size w w' := by
  have AW := hid fun w => awake_any HL w
  have TX := hid (text_any HL HR k num hn s hs A l n cap)
  have TY := hid (text_any HL HR k' num' hn' s' hs' B l2 m cap2)
  have PL := hid (apart (k := k) (k' := k') (s := s) (t := s') (l := l) (m := l2) hn hn')
  have X6 := hid (textL_256 (k := k) (num := num) hs hA.b256)
  have Y6 := hid (textL_256 (k := k') (num := num') hs' hB.b256)
  have SE := hid (str_beq hA.b256 hB.b256)
  obtain ⟨X, hX⟩ : ∃ X, X = textL k num s l := ⟨_, rfl⟩
  obtain ⟨Y, hY⟩ : ∃ Y, Y = textL k' num' s' l2 := ⟨_, rfl⟩
  rw [← hX] at TX PL X6
  rw [← hY] at TY PL Y6
  clear hX hY HL HR hn hn' hs hs'
  have XY := hid (str_beq X6.out Y6.out)
  have HA := hid hA
  have HB := hid hB
  clear hA hB
  go_enter Try.func3, Try.ntmps3
  go_upto_region 1 with fail
  try rw [show (w.alloc (.cells (tx k num s (.slice A n cap)) 26)).heap.size = w.heap.size + 1 by simp]
  generalize hw1 : World.alloc (World.alloc w _) _ = w1
  have B1 := hid (show Blk w1 w.heap.size 26 (tx k num s (.slice A n cap)) by rw [← hw1]; exact (Blk.new _ _ _).alloc _)
  have B2 := hid (show Blk w1 (w.heap.size + 1) 26 (tx k' num' s' (.slice B m cap2)) by rw [← hw1]; exact Blk.top rfl (by simp))
  have hb := hid (show Below w.heap.size w w1 by rw [← hw1]; exact ((Below.refl _ _).alloc (Nat.le_refl _) _).alloc (by simp) _)
  have A1 := hid (HA.out.on hb.out)
  have A2 := hid (HB.out.on hb.out)
  clear hw1 HA HB
  have c0 := tx_0 B1.out
  have c1 := tx_1 B1.out
  have c2 := tx_66 B1.out
  have d0 := tx_0 B2.out
  have d1 := tx_1 B2.out
  have d2 := tx_66 B2.out
  have c3 := hid (tx_sec B1.out)
  have d3 := hid (tx_sec B2.out)
  by_cases hbig : 10000 < n
  · have t1 : decide ((10000 : Int) < (n : Int)) = true := decide_eq_true (by omega)
    have t2 : decide (10000 < n) = true := decide_eq_true hbig
    clear hbig
    go_wp2_with fail
    refine (AW.out w1).mono ?_
    rintro e w2 ⟨rfl, h2⟩
    have b2 := hid (hb.out.trans (h2.mono hb.out.size))
    clear h2 c0 c1 c2 d0 d1 d2
    go_wp2_with fail
    go_ret
    exact ⟨rfl, b2.out⟩
  by_cases hbig2 : 10000 < m
  · have t1 : decide ((10000 : Int) < (n : Int)) = false := decide_eq_false (by omega)
    have t2 : decide (10000 < n) = false := decide_eq_false hbig
    have t3 : decide ((10000 : Int) < (m : Int)) = true := decide_eq_true (by omega)
    have t4 : decide (10000 < m) = true := decide_eq_true hbig2
    clear hbig hbig2
    go_wp2_with fail
    refine (AW.out w1).mono ?_
    rintro e w2 ⟨rfl, h2⟩
    have b2 := hid (hb.out.trans (h2.mono hb.out.size))
    clear h2 c0 c1 c2 d0 d1 d2
    go_wp2_with fail
    go_ret
    exact ⟨rfl, b2.out⟩
  have TX1 := hid (TX.out (by omega) )
  have TY1 := hid (TY.out (by omega))
  have t1 : decide ((10000 : Int) < (n : Int)) = false := decide_eq_false (by omega)
  have t2 : decide (10000 < n) = false := decide_eq_false hbig
  have t3 : decide ((10000 : Int) < (m : Int)) = false := decide_eq_false (by omega)
  have t4 : decide (10000 < m) = false := decide_eq_false hbig2
  clear hbig hbig2 TX TY
  go_upto_region 3 with fail
  by_cases hk : k % 5 = k' % 5
  · have u1 : ((k : Int) % 5 == (k' : Int) % 5) = true := by rw [beq_iff_eq]; omega
    by_cases hk2 : k % 5 < 2
    · have u2 : decide ((k : Int) % 5 < 2) = true := decide_eq_true (by omega)
      by_cases hnm : num = num'
      · have u3 : (num == num') = true := by rw [beq_iff_eq]; exact hnm
        obtain ⟨bq, hbq⟩ : ∃ bq, bq = eqA 64 s s' := ⟨_, rfl⟩
        have XB := hid (show decide (X = Y) = bq by
          rw [hbq, Bool.eq_iff_iff, decide_eq_true_iff, eqA_iff, PL.out, if_pos hk2]
          exact ⟨fun h => h.2.2, fun h => ⟨hk, hnm, h⟩⟩)
        have HBQ := hid hbq.symm
        clear hbq hk hk2 hnm
        go_upto_region 7 with (first | ((with_reducible apply ldAg tS); rfl; rfl; exact c3.out) | ((with_reducible apply ldAg tS); rfl; rfl; exact d3.out) | ((with_reducible apply weqAg bq uS eqgS); rfl; rfl; rfl; exact HBQ.out))
        clear u1 u2 u3 HBQ
        clear c0 c1 c2 d0 d1 d2 c3 d3 t1 t2 t3 t4
        refine wp_region_eS [some (.agg (tx k num s (.slice A n cap))), none, some (.string (str X)), some (.agg (tx k' num' s' (.slice B m cap2))), none, some (.string (str Y)), some (.bool bq), some (.bool bq), some (.bool true), some (.bool true), some (.bool true), some (.bool true)] [(1, X), (4, Y)] 12 (by kernel_rfl) (by kernel_rfl) (by kernel_rfl) fun vs => ?_
        simp only [List.take_succ_cons, List.take_zero, List.drop_succ_cons, List.drop_zero]
        refine ⟨.inl ⟨rfl, fun dd w' hd hC hDs => ?_⟩, fun e => ?_⟩
        · exact gE_ldTx rfl (B1.out.below hC B1.out.lt) ⟨rfl, hC, Below.refl _ _, eD_none rfl⟩
        have e' : vs 0 = _ := e
        rw [e']
        clear e e'
        simp only [Act.put, List.setIfInBounds_toArray, List.set_cons_succ, List.set_cons_zero]
        refine ⟨.inl ⟨rfl, fun dd w' hd hC hDs => ?_⟩, fun e => ?_⟩
        · go_simp
          refine ((TX1.out w' (A1.out.on hC))).mono ?_
          rintro e w2 ⟨v, rfl, o2, h2⟩
          have hbs : B256 _ := X6.out
          exact ⟨_, rfl, own_sl o2 hbs, hC.trans (h2.mono hC.size), h2, own_eD rfl o2 hbs⟩
        obtain ⟨A1, c1, e'⟩ : ∃ (A : Option Addr) (c : Nat), vs 1 = .slice A _ c := e
        rw [e']
        have E1 := hid e'
        clear e'
        simp only [Act.put, List.setIfInBounds_toArray, List.set_cons_succ, List.set_cons_zero]
        refine ⟨.inl ⟨rfl, fun dd w' hd hC hDs => ?_⟩, fun e => ?_⟩
        · obtain ⟨B7, k7, f7, a7⟩ := hDs 1 (by kernel_rfl) X rfl
          rw [E1.out] at f7
          cases f7
          have h1 := a7.str
          go_simp
          first | exact ⟨rfl, hC, Below.refl _ _, eD_none rfl⟩ | exact ⟨rfl, Below.refl _ _, eD_none rfl⟩ | exact ⟨hC, Below.refl _ _, eD_none rfl⟩
        have e' : vs 2 = _ := e
        rw [e']
        clear e e'
        simp only [Act.put, List.setIfInBounds_toArray, List.set_cons_succ, List.set_cons_zero]
        refine ⟨.inl ⟨rfl, fun dd w' hd hC hDs => ?_⟩, fun e => ?_⟩
        · exact gE_ldTx rfl (B2.out.below hC B2.out.lt) ⟨rfl, hC, Below.refl _ _, eD_none rfl⟩
        have e' : vs 3 = _ := e
        rw [e']
        clear e e'
        simp only [Act.put, List.setIfInBounds_toArray, List.set_cons_succ, List.set_cons_zero]
        refine ⟨.inl ⟨rfl, fun dd w' hd hC hDs => ?_⟩, fun e => ?_⟩
        · go_simp
          refine ((TY1.out w' (A2.out.on hC))).mono ?_
          rintro e w2 ⟨v, rfl, o2, h2⟩
          have hbs : B256 _ := Y6.out
          exact ⟨_, rfl, own_sl o2 hbs, hC.trans (h2.mono hC.size), h2, own_eD rfl o2 hbs⟩
        obtain ⟨A4, c4, e'⟩ : ∃ (A : Option Addr) (c : Nat), vs 4 = .slice A _ c := e
        rw [e']
        have E4 := hid e'
        clear e'
        simp only [Act.put, List.setIfInBounds_toArray, List.set_cons_succ, List.set_cons_zero]
        refine ⟨.inl ⟨rfl, fun dd w' hd hC hDs => ?_⟩, fun e => ?_⟩
        · obtain ⟨B7, k7, f7, a7⟩ := hDs 4 (by kernel_rfl) Y rfl
          rw [E4.out] at f7
          cases f7
          have h1 := a7.str
          go_simp
          first | exact ⟨rfl, hC, Below.refl _ _, eD_none rfl⟩ | exact ⟨rfl, Below.refl _ _, eD_none rfl⟩ | exact ⟨hC, Below.refl _ _, eD_none rfl⟩
        have e' : vs 5 = _ := e
        rw [e']
        clear e e'
        simp only [Act.put, List.setIfInBounds_toArray, List.set_cons_succ, List.set_cons_zero]
        refine ⟨.inl ⟨rfl, fun dd w' hd hC hDs => ?_⟩, fun e => ?_⟩
        · have h1 : ((str X).toList == (str Y).toList) = bq := by rw [XY.out]; exact XB.out
          go_simp
          first | exact ⟨rfl, hC, Below.refl _ _, eD_none rfl⟩ | exact ⟨rfl, Below.refl _ _, eD_none rfl⟩ | exact ⟨hC, Below.refl _ _, eD_none rfl⟩
        have e' : vs 6 = _ := e
        rw [e']
        clear e e'
        simp only [Act.put, List.setIfInBounds_toArray, List.set_cons_succ, List.set_cons_zero]
        refine ⟨.inl ⟨rfl, fun dd w' hd hC hDs => ?_⟩, fun e => ?_⟩
        · go_simp
          first | exact ⟨rfl, hC, Below.refl _ _, eD_none rfl⟩ | exact ⟨rfl, Below.refl _ _, eD_none rfl⟩ | exact ⟨hC, Below.refl _ _, eD_none rfl⟩
        have e' : vs 7 = _ := e
        rw [e']
        clear e e'
        simp only [Act.put, List.setIfInBounds_toArray, List.set_cons_succ, List.set_cons_zero]
        refine ⟨.inl ⟨rfl, fun dd w' hd hC hDs => ?_⟩, fun e => ?_⟩
        · have h1 : (bq == bq) = true := by simp
          go_simp
          first | exact ⟨rfl, hC, Below.refl _ _, eD_none rfl⟩ | exact ⟨rfl, Below.refl _ _, eD_none rfl⟩ | exact ⟨hC, Below.refl _ _, eD_none rfl⟩
        have e' : vs 8 = _ := e
        rw [e']
        clear e e'
        simp only [Act.put, List.setIfInBounds_toArray, List.set_cons_succ, List.set_cons_zero]
        refine ⟨.inl ⟨rfl, fun dd w' hd hC hDs => ?_⟩, fun e => ?_⟩
        · go_simp
          first | exact ⟨rfl, hC, Below.refl _ _, eD_none rfl⟩ | exact ⟨rfl, Below.refl _ _, eD_none rfl⟩ | exact ⟨hC, Below.refl _ _, eD_none rfl⟩
        have e' : vs 9 = _ := e
        rw [e']
        clear e e'
        simp only [Act.put, List.setIfInBounds_toArray, List.set_cons_succ, List.set_cons_zero]
        refine ⟨.inl ⟨rfl, fun dd w' hd hC hDs => ?_⟩, fun e => ?_⟩
        · go_simp
          refine ((AW.out w')).mono ?_
          rintro e w2 ⟨rfl, h2⟩
          exact ⟨_, rfl, rfl, hC.trans (h2.mono hC.size), h2, eD_none rfl⟩
        have e' : vs 10 = _ := e
        rw [e']
        clear e e'
        simp only [Act.put, List.setIfInBounds_toArray, List.set_cons_succ, List.set_cons_zero]
        refine ⟨.inl ⟨rfl, fun dd w' hd hC hDs => ?_⟩, fun e => ?_⟩
        · go_simp
          first | exact ⟨rfl, hC, Below.refl _ _, eD_none rfl⟩ | exact ⟨rfl, Below.refl _ _, eD_none rfl⟩ | exact ⟨hC, Below.refl _ _, eD_none rfl⟩
        have e' : vs 11 = _ := e
        rw [e']
        clear e e'
        simp only [Act.put, List.setIfInBounds_toArray, List.set_cons_succ, List.set_cons_zero]
        intro dd w4 hall hC4 hDs
        have db := hid (hb.out.trans (hC4.mono hb.out.size))
        clear hall hC4 hDs E1 E4 B1 B2 hb
        go_wp2_with fail
        go_ret
        exact ⟨rfl, db.out⟩
      · have u3 : (num == num') = false := by rw [beq_eq_false_iff_ne]; exact hnm
        have XB := hid (show decide (X = Y) = false from decide_eq_false fun h => by
          have h1 := PL.out.1 h
          rw [if_pos hk2] at h1
          exact hnm h1.2.1)
        clear hk hk2 hnm
        go_upto_region 7 with fail
        clear u1 u2 u3
        clear c0 c1 c2 d0 d1 d2 c3 d3 t1 t2 t3 t4
        refine wp_region_eS [some (.agg (tx k num s (.slice A n cap))), none, some (.string (str X)), some (.agg (tx k' num' s' (.slice B m cap2))), none, some (.string (str Y)), some (.bool false), some (.bool false), some (.bool true), some (.bool true), some (.bool true), some (.bool true)] [(1, X), (4, Y)] 12 (by kernel_rfl) (by kernel_rfl) (by kernel_rfl) fun vs => ?_
        simp only [List.take_succ_cons, List.take_zero, List.drop_succ_cons, List.drop_zero]
        refine ⟨.inl ⟨rfl, fun dd w' hd hC hDs => ?_⟩, fun e => ?_⟩
        · exact gE_ldTx rfl (B1.out.below hC B1.out.lt) ⟨rfl, hC, Below.refl _ _, eD_none rfl⟩
        have e' : vs 0 = _ := e
        rw [e']
        clear e e'
        simp only [Act.put, List.setIfInBounds_toArray, List.set_cons_succ, List.set_cons_zero]
        refine ⟨.inl ⟨rfl, fun dd w' hd hC hDs => ?_⟩, fun e => ?_⟩
        · go_simp
          refine ((TX1.out w' (A1.out.on hC))).mono ?_
          rintro e w2 ⟨v, rfl, o2, h2⟩
          have hbs : B256 _ := X6.out
          exact ⟨_, rfl, own_sl o2 hbs, hC.trans (h2.mono hC.size), h2, own_eD rfl o2 hbs⟩
        obtain ⟨A1, c1, e'⟩ : ∃ (A : Option Addr) (c : Nat), vs 1 = .slice A _ c := e
        rw [e']
        have E1 := hid e'
        clear e'
        simp only [Act.put, List.setIfInBounds_toArray, List.set_cons_succ, List.set_cons_zero]
        refine ⟨.inl ⟨rfl, fun dd w' hd hC hDs => ?_⟩, fun e => ?_⟩
        · obtain ⟨B7, k7, f7, a7⟩ := hDs 1 (by kernel_rfl) X rfl
          rw [E1.out] at f7
          cases f7
          have h1 := a7.str
          go_simp
          first | exact ⟨rfl, hC, Below.refl _ _, eD_none rfl⟩ | exact ⟨rfl, Below.refl _ _, eD_none rfl⟩ | exact ⟨hC, Below.refl _ _, eD_none rfl⟩
        have e' : vs 2 = _ := e
        rw [e']
        clear e e'
        simp only [Act.put, List.setIfInBounds_toArray, List.set_cons_succ, List.set_cons_zero]
        refine ⟨.inl ⟨rfl, fun dd w' hd hC hDs => ?_⟩, fun e => ?_⟩
        · exact gE_ldTx rfl (B2.out.below hC B2.out.lt) ⟨rfl, hC, Below.refl _ _, eD_none rfl⟩
        have e' : vs 3 = _ := e
        rw [e']
        clear e e'
        simp only [Act.put, List.setIfInBounds_toArray, List.set_cons_succ, List.set_cons_zero]
        refine ⟨.inl ⟨rfl, fun dd w' hd hC hDs => ?_⟩, fun e => ?_⟩
        · go_simp
          refine ((TY1.out w' (A2.out.on hC))).mono ?_
          rintro e w2 ⟨v, rfl, o2, h2⟩
          have hbs : B256 _ := Y6.out
          exact ⟨_, rfl, own_sl o2 hbs, hC.trans (h2.mono hC.size), h2, own_eD rfl o2 hbs⟩
        obtain ⟨A4, c4, e'⟩ : ∃ (A : Option Addr) (c : Nat), vs 4 = .slice A _ c := e
        rw [e']
        have E4 := hid e'
        clear e'
        simp only [Act.put, List.setIfInBounds_toArray, List.set_cons_succ, List.set_cons_zero]
        refine ⟨.inl ⟨rfl, fun dd w' hd hC hDs => ?_⟩, fun e => ?_⟩
        · obtain ⟨B7, k7, f7, a7⟩ := hDs 4 (by kernel_rfl) Y rfl
          rw [E4.out] at f7
          cases f7
          have h1 := a7.str
          go_simp
          first | exact ⟨rfl, hC, Below.refl _ _, eD_none rfl⟩ | exact ⟨rfl, Below.refl _ _, eD_none rfl⟩ | exact ⟨hC, Below.refl _ _, eD_none rfl⟩
        have e' : vs 5 = _ := e
        rw [e']
        clear e e'
        simp only [Act.put, List.setIfInBounds_toArray, List.set_cons_succ, List.set_cons_zero]
        refine ⟨.inl ⟨rfl, fun dd w' hd hC hDs => ?_⟩, fun e => ?_⟩
        · have h1 : ((str X).toList == (str Y).toList) = false := by rw [XY.out]; exact XB.out
          go_simp
          first | exact ⟨rfl, hC, Below.refl _ _, eD_none rfl⟩ | exact ⟨rfl, Below.refl _ _, eD_none rfl⟩ | exact ⟨hC, Below.refl _ _, eD_none rfl⟩
        have e' : vs 6 = _ := e
        rw [e']
        clear e e'
        simp only [Act.put, List.setIfInBounds_toArray, List.set_cons_succ, List.set_cons_zero]
        refine ⟨.inl ⟨rfl, fun dd w' hd hC hDs => ?_⟩, fun e => ?_⟩
        · go_simp
          first | exact ⟨rfl, hC, Below.refl _ _, eD_none rfl⟩ | exact ⟨rfl, Below.refl _ _, eD_none rfl⟩ | exact ⟨hC, Below.refl _ _, eD_none rfl⟩
        have e' : vs 7 = _ := e
        rw [e']
        clear e e'
        simp only [Act.put, List.setIfInBounds_toArray, List.set_cons_succ, List.set_cons_zero]
        refine ⟨.inl ⟨rfl, fun dd w' hd hC hDs => ?_⟩, fun e => ?_⟩
        · have h1 : (false == false) = true := by simp
          go_simp
          first | exact ⟨rfl, hC, Below.refl _ _, eD_none rfl⟩ | exact ⟨rfl, Below.refl _ _, eD_none rfl⟩ | exact ⟨hC, Below.refl _ _, eD_none rfl⟩
        have e' : vs 8 = _ := e
        rw [e']
        clear e e'
        simp only [Act.put, List.setIfInBounds_toArray, List.set_cons_succ, List.set_cons_zero]
        refine ⟨.inl ⟨rfl, fun dd w' hd hC hDs => ?_⟩, fun e => ?_⟩
        · go_simp
          first | exact ⟨rfl, hC, Below.refl _ _, eD_none rfl⟩ | exact ⟨rfl, Below.refl _ _, eD_none rfl⟩ | exact ⟨hC, Below.refl _ _, eD_none rfl⟩
        have e' : vs 9 = _ := e
        rw [e']
        clear e e'
        simp only [Act.put, List.setIfInBounds_toArray, List.set_cons_succ, List.set_cons_zero]
        refine ⟨.inl ⟨rfl, fun dd w' hd hC hDs => ?_⟩, fun e => ?_⟩
        · go_simp
          refine ((AW.out w')).mono ?_
          rintro e w2 ⟨rfl, h2⟩
          exact ⟨_, rfl, rfl, hC.trans (h2.mono hC.size), h2, eD_none rfl⟩
        have e' : vs 10 = _ := e
        rw [e']
        clear e e'
        simp only [Act.put, List.setIfInBounds_toArray, List.set_cons_succ, List.set_cons_zero]
        refine ⟨.inl ⟨rfl, fun dd w' hd hC hDs => ?_⟩, fun e => ?_⟩
        · go_simp
          first | exact ⟨rfl, hC, Below.refl _ _, eD_none rfl⟩ | exact ⟨rfl, Below.refl _ _, eD_none rfl⟩ | exact ⟨hC, Below.refl _ _, eD_none rfl⟩
        have e' : vs 11 = _ := e
        rw [e']
        clear e e'
        simp only [Act.put, List.setIfInBounds_toArray, List.set_cons_succ, List.set_cons_zero]
        intro dd w4 hall hC4 hDs
        have db := hid (hb.out.trans (hC4.mono hb.out.size))
        clear hall hC4 hDs E1 E4 B1 B2 hb
        go_wp2_with fail
        go_ret
        exact ⟨rfl, db.out⟩
    · have u2 : decide ((k : Int) % 5 < 2) = false := decide_eq_false (by omega)
      obtain ⟨bq, hbq⟩ : ∃ bq, bq = decide (l = l2) := ⟨_, rfl⟩
      have XB := hid (show decide (X = Y) = bq by
        rw [hbq, Bool.eq_iff_iff, decide_eq_true_iff, decide_eq_true_iff, PL.out, if_neg hk2]
        exact ⟨fun h => h.2, fun h => ⟨hk, h⟩⟩)
      have u3 : ((str l).toList == (str l2).toList) = bq := by rw [SE.out, hbq]
      have u4 := A1.out.str
      have u5 := A2.out.str
      clear hbq hk hk2
      go_upto_region 7 with fail
      clear u1 u2 u3 u4 u5
      clear c0 c1 c2 d0 d1 d2 c3 d3 t1 t2 t3 t4
      refine wp_region_eS [some (.agg (tx k num s (.slice A n cap))), none, some (.string (str X)), some (.agg (tx k' num' s' (.slice B m cap2))), none, some (.string (str Y)), some (.bool bq), some (.bool bq), some (.bool true), some (.bool true), some (.bool true), some (.bool true)] [(1, X), (4, Y)] 12 (by kernel_rfl) (by kernel_rfl) (by kernel_rfl) fun vs => ?_
      simp only [List.take_succ_cons, List.take_zero, List.drop_succ_cons, List.drop_zero]
      refine ⟨.inl ⟨rfl, fun dd w' hd hC hDs => ?_⟩, fun e => ?_⟩
      · exact gE_ldTx rfl (B1.out.below hC B1.out.lt) ⟨rfl, hC, Below.refl _ _, eD_none rfl⟩
      have e' : vs 0 = _ := e
      rw [e']
      clear e e'
      simp only [Act.put, List.setIfInBounds_toArray, List.set_cons_succ, List.set_cons_zero]
      refine ⟨.inl ⟨rfl, fun dd w' hd hC hDs => ?_⟩, fun e => ?_⟩
      · go_simp
        refine ((TX1.out w' (A1.out.on hC))).mono ?_
        rintro e w2 ⟨v, rfl, o2, h2⟩
        have hbs : B256 _ := X6.out
        exact ⟨_, rfl, own_sl o2 hbs, hC.trans (h2.mono hC.size), h2, own_eD rfl o2 hbs⟩
      obtain ⟨A1, c1, e'⟩ : ∃ (A : Option Addr) (c : Nat), vs 1 = .slice A _ c := e
      rw [e']
      have E1 := hid e'
      clear e'
      simp only [Act.put, List.setIfInBounds_toArray, List.set_cons_succ, List.set_cons_zero]
      refine ⟨.inl ⟨rfl, fun dd w' hd hC hDs => ?_⟩, fun e => ?_⟩
      · obtain ⟨B7, k7, f7, a7⟩ := hDs 1 (by kernel_rfl) X rfl
        rw [E1.out] at f7
        cases f7
        have h1 := a7.str
        go_simp
        first | exact ⟨rfl, hC, Below.refl _ _, eD_none rfl⟩ | exact ⟨rfl, Below.refl _ _, eD_none rfl⟩ | exact ⟨hC, Below.refl _ _, eD_none rfl⟩
      have e' : vs 2 = _ := e
      rw [e']
      clear e e'
      simp only [Act.put, List.setIfInBounds_toArray, List.set_cons_succ, List.set_cons_zero]
      refine ⟨.inl ⟨rfl, fun dd w' hd hC hDs => ?_⟩, fun e => ?_⟩
      · exact gE_ldTx rfl (B2.out.below hC B2.out.lt) ⟨rfl, hC, Below.refl _ _, eD_none rfl⟩
      have e' : vs 3 = _ := e
      rw [e']
      clear e e'
      simp only [Act.put, List.setIfInBounds_toArray, List.set_cons_succ, List.set_cons_zero]
      refine ⟨.inl ⟨rfl, fun dd w' hd hC hDs => ?_⟩, fun e => ?_⟩
      · go_simp
        refine ((TY1.out w' (A2.out.on hC))).mono ?_
        rintro e w2 ⟨v, rfl, o2, h2⟩
        have hbs : B256 _ := Y6.out
        exact ⟨_, rfl, own_sl o2 hbs, hC.trans (h2.mono hC.size), h2, own_eD rfl o2 hbs⟩
      obtain ⟨A4, c4, e'⟩ : ∃ (A : Option Addr) (c : Nat), vs 4 = .slice A _ c := e
      rw [e']
      have E4 := hid e'
      clear e'
      simp only [Act.put, List.setIfInBounds_toArray, List.set_cons_succ, List.set_cons_zero]
      refine ⟨.inl ⟨rfl, fun dd w' hd hC hDs => ?_⟩, fun e => ?_⟩
      · obtain ⟨B7, k7, f7, a7⟩ := hDs 4 (by kernel_rfl) Y rfl
        rw [E4.out] at f7
        cases f7
        have h1 := a7.str
        go_simp
        first | exact ⟨rfl, hC, Below.refl _ _, eD_none rfl⟩ | exact ⟨rfl, Below.refl _ _, eD_none rfl⟩ | exact ⟨hC, Below.refl _ _, eD_none rfl⟩
      have e' : vs 5 = _ := e
      rw [e']
      clear e e'
      simp only [Act.put, List.setIfInBounds_toArray, List.set_cons_succ, List.set_cons_zero]
      refine ⟨.inl ⟨rfl, fun dd w' hd hC hDs => ?_⟩, fun e => ?_⟩
      · have h1 : ((str X).toList == (str Y).toList) = bq := by rw [XY.out]; exact XB.out
        go_simp
        first | exact ⟨rfl, hC, Below.refl _ _, eD_none rfl⟩ | exact ⟨rfl, Below.refl _ _, eD_none rfl⟩ | exact ⟨hC, Below.refl _ _, eD_none rfl⟩
      have e' : vs 6 = _ := e
      rw [e']
      clear e e'
      simp only [Act.put, List.setIfInBounds_toArray, List.set_cons_succ, List.set_cons_zero]
      refine ⟨.inl ⟨rfl, fun dd w' hd hC hDs => ?_⟩, fun e => ?_⟩
      · go_simp
        first | exact ⟨rfl, hC, Below.refl _ _, eD_none rfl⟩ | exact ⟨rfl, Below.refl _ _, eD_none rfl⟩ | exact ⟨hC, Below.refl _ _, eD_none rfl⟩
      have e' : vs 7 = _ := e
      rw [e']
      clear e e'
      simp only [Act.put, List.setIfInBounds_toArray, List.set_cons_succ, List.set_cons_zero]
      refine ⟨.inl ⟨rfl, fun dd w' hd hC hDs => ?_⟩, fun e => ?_⟩
      · have h1 : (bq == bq) = true := by simp
        go_simp
        first | exact ⟨rfl, hC, Below.refl _ _, eD_none rfl⟩ | exact ⟨rfl, Below.refl _ _, eD_none rfl⟩ | exact ⟨hC, Below.refl _ _, eD_none rfl⟩
      have e' : vs 8 = _ := e
      rw [e']
      clear e e'
      simp only [Act.put, List.setIfInBounds_toArray, List.set_cons_succ, List.set_cons_zero]
      refine ⟨.inl ⟨rfl, fun dd w' hd hC hDs => ?_⟩, fun e => ?_⟩
      · go_simp
        first | exact ⟨rfl, hC, Below.refl _ _, eD_none rfl⟩ | exact ⟨rfl, Below.refl _ _, eD_none rfl⟩ | exact ⟨hC, Below.refl _ _, eD_none rfl⟩
      have e' : vs 9 = _ := e
      rw [e']
      clear e e'
      simp only [Act.put, List.setIfInBounds_toArray, List.set_cons_succ, List.set_cons_zero]
      refine ⟨.inl ⟨rfl, fun dd w' hd hC hDs => ?_⟩, fun e => ?_⟩
      · go_simp
        refine ((AW.out w')).mono ?_
        rintro e w2 ⟨rfl, h2⟩
        exact ⟨_, rfl, rfl, hC.trans (h2.mono hC.size), h2, eD_none rfl⟩
      have e' : vs 10 = _ := e
      rw [e']
      clear e e'
      simp only [Act.put, List.setIfInBounds_toArray, List.set_cons_succ, List.set_cons_zero]
      refine ⟨.inl ⟨rfl, fun dd w' hd hC hDs => ?_⟩, fun e => ?_⟩
      · go_simp
        first | exact ⟨rfl, hC, Below.refl _ _, eD_none rfl⟩ | exact ⟨rfl, Below.refl _ _, eD_none rfl⟩ | exact ⟨hC, Below.refl _ _, eD_none rfl⟩
      have e' : vs 11 = _ := e
      rw [e']
      clear e e'
      simp only [Act.put, List.setIfInBounds_toArray, List.set_cons_succ, List.set_cons_zero]
      intro dd w4 hall hC4 hDs
      have db := hid (hb.out.trans (hC4.mono hb.out.size))
      clear hall hC4 hDs E1 E4 B1 B2 hb
      go_wp2_with fail
      go_ret
      exact ⟨rfl, db.out⟩
  · have u1 : ((k : Int) % 5 == (k' : Int) % 5) = false := by rw [beq_eq_false_iff_ne]; omega
    have XB := hid (show decide (X = Y) = false from decide_eq_false fun h => hk (PL.out.1 h).1)
    by_cases hk2 : k % 5 < 2
    · have u2 : decide ((k : Int) % 5 < 2) = true := decide_eq_true (by omega)
      clear hk hk2
      go_upto_region 7 with fail
      clear u1 u2
      clear c0 c1 c2 d0 d1 d2 c3 d3 t1 t2 t3 t4
      refine wp_region_eS [some (.agg (tx k num s (.slice A n cap))), none, some (.string (str X)), some (.agg (tx k' num' s' (.slice B m cap2))), none, some (.string (str Y)), some (.bool false), some (.bool false), some (.bool true), some (.bool true), some (.bool true), some (.bool true)] [(1, X), (4, Y)] 12 (by kernel_rfl) (by kernel_rfl) (by kernel_rfl) fun vs => ?_
      simp only [List.take_succ_cons, List.take_zero, List.drop_succ_cons, List.drop_zero]
      refine ⟨.inl ⟨rfl, fun dd w' hd hC hDs => ?_⟩, fun e => ?_⟩
      · exact gE_ldTx rfl (B1.out.below hC B1.out.lt) ⟨rfl, hC, Below.refl _ _, eD_none rfl⟩
      have e' : vs 0 = _ := e
      rw [e']
      clear e e'
      simp only [Act.put, List.setIfInBounds_toArray, List.set_cons_succ, List.set_cons_zero]
      refine ⟨.inl ⟨rfl, fun dd w' hd hC hDs => ?_⟩, fun e => ?_⟩
      · go_simp
        refine ((TX1.out w' (A1.out.on hC))).mono ?_
        rintro e w2 ⟨v, rfl, o2, h2⟩
        have hbs : B256 _ := X6.out
        exact ⟨_, rfl, own_sl o2 hbs, hC.trans (h2.mono hC.size), h2, own_eD rfl o2 hbs⟩
      obtain ⟨A1, c1, e'⟩ : ∃ (A : Option Addr) (c : Nat), vs 1 = .slice A _ c := e
      rw [e']
      have E1 := hid e'
      clear e'
      simp only [Act.put, List.setIfInBounds_toArray, List.set_cons_succ, List.set_cons_zero]
      refine ⟨.inl ⟨rfl, fun dd w' hd hC hDs => ?_⟩, fun e => ?_⟩
      · obtain ⟨B7, k7, f7, a7⟩ := hDs 1 (by kernel_rfl) X rfl
        rw [E1.out] at f7
        cases f7
        have h1 := a7.str
        go_simp
        first | exact ⟨rfl, hC, Below.refl _ _, eD_none rfl⟩ | exact ⟨rfl, Below.refl _ _, eD_none rfl⟩ | exact ⟨hC, Below.refl _ _, eD_none rfl⟩
      have e' : vs 2 = _ := e
      rw [e']
      clear e e'
      simp only [Act.put, List.setIfInBounds_toArray, List.set_cons_succ, List.set_cons_zero]
      refine ⟨.inl ⟨rfl, fun dd w' hd hC hDs => ?_⟩, fun e => ?_⟩
      · exact gE_ldTx rfl (B2.out.below hC B2.out.lt) ⟨rfl, hC, Below.refl _ _, eD_none rfl⟩
      have e' : vs 3 = _ := e
      rw [e']
      clear e e'
      simp only [Act.put, List.setIfInBounds_toArray, List.set_cons_succ, List.set_cons_zero]
      refine ⟨.inl ⟨rfl, fun dd w' hd hC hDs => ?_⟩, fun e => ?_⟩
      · go_simp
        refine ((TY1.out w' (A2.out.on hC))).mono ?_
        rintro e w2 ⟨v, rfl, o2, h2⟩
        have hbs : B256 _ := Y6.out
        exact ⟨_, rfl, own_sl o2 hbs, hC.trans (h2.mono hC.size), h2, own_eD rfl o2 hbs⟩
      obtain ⟨A4, c4, e'⟩ : ∃ (A : Option Addr) (c : Nat), vs 4 = .slice A _ c := e
      rw [e']
      have E4 := hid e'
      clear e'
      simp only [Act.put, List.setIfInBounds_toArray, List.set_cons_succ, List.set_cons_zero]
      refine ⟨.inl ⟨rfl, fun dd w' hd hC hDs => ?_⟩, fun e => ?_⟩
      · obtain ⟨B7, k7, f7, a7⟩ := hDs 4 (by kernel_rfl) Y rfl
        rw [E4.out] at f7
        cases f7
        have h1 := a7.str
        go_simp
        first | exact ⟨rfl, hC, Below.refl _ _, eD_none rfl⟩ | exact ⟨rfl, Below.refl _ _, eD_none rfl⟩ | exact ⟨hC, Below.refl _ _, eD_none rfl⟩
      have e' : vs 5 = _ := e
      rw [e']
      clear e e'
      simp only [Act.put, List.setIfInBounds_toArray, List.set_cons_succ, List.set_cons_zero]
      refine ⟨.inl ⟨rfl, fun dd w' hd hC hDs => ?_⟩, fun e => ?_⟩
      · have h1 : ((str X).toList == (str Y).toList) = false := by rw [XY.out]; exact XB.out
        go_simp
        first | exact ⟨rfl, hC, Below.refl _ _, eD_none rfl⟩ | exact ⟨rfl, Below.refl _ _, eD_none rfl⟩ | exact ⟨hC, Below.refl _ _, eD_none rfl⟩
      have e' : vs 6 = _ := e
      rw [e']
      clear e e'
      simp only [Act.put, List.setIfInBounds_toArray, List.set_cons_succ, List.set_cons_zero]
      refine ⟨.inl ⟨rfl, fun dd w' hd hC hDs => ?_⟩, fun e => ?_⟩
      · go_simp
        first | exact ⟨rfl, hC, Below.refl _ _, eD_none rfl⟩ | exact ⟨rfl, Below.refl _ _, eD_none rfl⟩ | exact ⟨hC, Below.refl _ _, eD_none rfl⟩
      have e' : vs 7 = _ := e
      rw [e']
      clear e e'
      simp only [Act.put, List.setIfInBounds_toArray, List.set_cons_succ, List.set_cons_zero]
      refine ⟨.inl ⟨rfl, fun dd w' hd hC hDs => ?_⟩, fun e => ?_⟩
      · have h1 : (false == false) = true := by simp
        go_simp
        first | exact ⟨rfl, hC, Below.refl _ _, eD_none rfl⟩ | exact ⟨rfl, Below.refl _ _, eD_none rfl⟩ | exact ⟨hC, Below.refl _ _, eD_none rfl⟩
      have e' : vs 8 = _ := e
      rw [e']
      clear e e'
      simp only [Act.put, List.setIfInBounds_toArray, List.set_cons_succ, List.set_cons_zero]
      refine ⟨.inl ⟨rfl, fun dd w' hd hC hDs => ?_⟩, fun e => ?_⟩
      · go_simp
        first | exact ⟨rfl, hC, Below.refl _ _, eD_none rfl⟩ | exact ⟨rfl, Below.refl _ _, eD_none rfl⟩ | exact ⟨hC, Below.refl _ _, eD_none rfl⟩
      have e' : vs 9 = _ := e
      rw [e']
      clear e e'
      simp only [Act.put, List.setIfInBounds_toArray, List.set_cons_succ, List.set_cons_zero]
      refine ⟨.inl ⟨rfl, fun dd w' hd hC hDs => ?_⟩, fun e => ?_⟩
      · go_simp
        refine ((AW.out w')).mono ?_
        rintro e w2 ⟨rfl, h2⟩
        exact ⟨_, rfl, rfl, hC.trans (h2.mono hC.size), h2, eD_none rfl⟩
      have e' : vs 10 = _ := e
      rw [e']
      clear e e'
      simp only [Act.put, List.setIfInBounds_toArray, List.set_cons_succ, List.set_cons_zero]
      refine ⟨.inl ⟨rfl, fun dd w' hd hC hDs => ?_⟩, fun e => ?_⟩
      · go_simp
        first | exact ⟨rfl, hC, Below.refl _ _, eD_none rfl⟩ | exact ⟨rfl, Below.refl _ _, eD_none rfl⟩ | exact ⟨hC, Below.refl _ _, eD_none rfl⟩
      have e' : vs 11 = _ := e
      rw [e']
      clear e e'
      simp only [Act.put, List.setIfInBounds_toArray, List.set_cons_succ, List.set_cons_zero]
      intro dd w4 hall hC4 hDs
      have db := hid (hb.out.trans (hC4.mono hb.out.size))
      clear hall hC4 hDs E1 E4 B1 B2 hb
      go_wp2_with fail
      go_ret
      exact ⟨rfl, db.out⟩
    · have u2 : decide ((k : Int) % 5 < 2) = false := decide_eq_false (by omega)
      clear hk hk2
      go_upto_region 7 with fail
      clear u1 u2
      clear c0 c1 c2 d0 d1 d2 c3 d3 t1 t2 t3 t4
      refine wp_region_eS [some (.agg (tx k num s (.slice A n cap))), none, some (.string (str X)), some (.agg (tx k' num' s' (.slice B m cap2))), none, some (.string (str Y)), some (.bool false), some (.bool false), some (.bool true), some (.bool true), some (.bool true), some (.bool true)] [(1, X), (4, Y)] 12 (by kernel_rfl) (by kernel_rfl) (by kernel_rfl) fun vs => ?_
      simp only [List.take_succ_cons, List.take_zero, List.drop_succ_cons, List.drop_zero]
      refine ⟨.inl ⟨rfl, fun dd w' hd hC hDs => ?_⟩, fun e => ?_⟩
      · exact gE_ldTx rfl (B1.out.below hC B1.out.lt) ⟨rfl, hC, Below.refl _ _, eD_none rfl⟩
      have e' : vs 0 = _ := e
      rw [e']
      clear e e'
      simp only [Act.put, List.setIfInBounds_toArray, List.set_cons_succ, List.set_cons_zero]
      refine ⟨.inl ⟨rfl, fun dd w' hd hC hDs => ?_⟩, fun e => ?_⟩
      · go_simp
        refine ((TX1.out w' (A1.out.on hC))).mono ?_
        rintro e w2 ⟨v, rfl, o2, h2⟩
        have hbs : B256 _ := X6.out
        exact ⟨_, rfl, own_sl o2 hbs, hC.trans (h2.mono hC.size), h2, own_eD rfl o2 hbs⟩
      obtain ⟨A1, c1, e'⟩ : ∃ (A : Option Addr) (c : Nat), vs 1 = .slice A _ c := e
      rw [e']
      have E1 := hid e'
      clear e'
      simp only [Act.put, List.setIfInBounds_toArray, List.set_cons_succ, List.set_cons_zero]
      refine ⟨.inl ⟨rfl, fun dd w' hd hC hDs => ?_⟩, fun e => ?_⟩
      · obtain ⟨B7, k7, f7, a7⟩ := hDs 1 (by kernel_rfl) X rfl
        rw [E1.out] at f7
        cases f7
        have h1 := a7.str
        go_simp
        first | exact ⟨rfl, hC, Below.refl _ _, eD_none rfl⟩ | exact ⟨rfl, Below.refl _ _, eD_none rfl⟩ | exact ⟨hC, Below.refl _ _, eD_none rfl⟩
      have e' : vs 2 = _ := e
      rw [e']
      clear e e'
      simp only [Act.put, List.setIfInBounds_toArray, List.set_cons_succ, List.set_cons_zero]
      refine ⟨.inl ⟨rfl, fun dd w' hd hC hDs => ?_⟩, fun e => ?_⟩
      · exact gE_ldTx rfl (B2.out.below hC B2.out.lt) ⟨rfl, hC, Below.refl _ _, eD_none rfl⟩
      have e' : vs 3 = _ := e
      rw [e']
      clear e e'
      simp only [Act.put, List.setIfInBounds_toArray, List.set_cons_succ, List.set_cons_zero]
      refine ⟨.inl ⟨rfl, fun dd w' hd hC hDs => ?_⟩, fun e => ?_⟩
      · go_simp
        refine ((TY1.out w' (A2.out.on hC))).mono ?_
        rintro e w2 ⟨v, rfl, o2, h2⟩
        have hbs : B256 _ := Y6.out
        exact ⟨_, rfl, own_sl o2 hbs, hC.trans (h2.mono hC.size), h2, own_eD rfl o2 hbs⟩
      obtain ⟨A4, c4, e'⟩ : ∃ (A : Option Addr) (c : Nat), vs 4 = .slice A _ c := e
      rw [e']
      have E4 := hid e'
      clear e'
      simp only [Act.put, List.setIfInBounds_toArray, List.set_cons_succ, List.set_cons_zero]
      refine ⟨.inl ⟨rfl, fun dd w' hd hC hDs => ?_⟩, fun e => ?_⟩
      · obtain ⟨B7, k7, f7, a7⟩ := hDs 4 (by kernel_rfl) Y rfl
        rw [E4.out] at f7
        cases f7
        have h1 := a7.str
        go_simp
        first | exact ⟨rfl, hC, Below.refl _ _, eD_none rfl⟩ | exact ⟨rfl, Below.refl _ _, eD_none rfl⟩ | exact ⟨hC, Below.refl _ _, eD_none rfl⟩
      have e' : vs 5 = _ := e
      rw [e']
      clear e e'
      simp only [Act.put, List.setIfInBounds_toArray, List.set_cons_succ, List.set_cons_zero]
      refine ⟨.inl ⟨rfl, fun dd w' hd hC hDs => ?_⟩, fun e => ?_⟩
      · have h1 : ((str X).toList == (str Y).toList) = false := by rw [XY.out]; exact XB.out
        go_simp
        first | exact ⟨rfl, hC, Below.refl _ _, eD_none rfl⟩ | exact ⟨rfl, Below.refl _ _, eD_none rfl⟩ | exact ⟨hC, Below.refl _ _, eD_none rfl⟩
      have e' : vs 6 = _ := e
      rw [e']
      clear e e'
      simp only [Act.put, List.setIfInBounds_toArray, List.set_cons_succ, List.set_cons_zero]
      refine ⟨.inl ⟨rfl, fun dd w' hd hC hDs => ?_⟩, fun e => ?_⟩
      · go_simp
        first | exact ⟨rfl, hC, Below.refl _ _, eD_none rfl⟩ | exact ⟨rfl, Below.refl _ _, eD_none rfl⟩ | exact ⟨hC, Below.refl _ _, eD_none rfl⟩
      have e' : vs 7 = _ := e
      rw [e']
      clear e e'
      simp only [Act.put, List.setIfInBounds_toArray, List.set_cons_succ, List.set_cons_zero]
      refine ⟨.inl ⟨rfl, fun dd w' hd hC hDs => ?_⟩, fun e => ?_⟩
      · have h1 : (false == false) = true := by simp
        go_simp
        first | exact ⟨rfl, hC, Below.refl _ _, eD_none rfl⟩ | exact ⟨rfl, Below.refl _ _, eD_none rfl⟩ | exact ⟨hC, Below.refl _ _, eD_none rfl⟩
      have e' : vs 8 = _ := e
      rw [e']
      clear e e'
      simp only [Act.put, List.setIfInBounds_toArray, List.set_cons_succ, List.set_cons_zero]
      refine ⟨.inl ⟨rfl, fun dd w' hd hC hDs => ?_⟩, fun e => ?_⟩
      · go_simp
        first | exact ⟨rfl, hC, Below.refl _ _, eD_none rfl⟩ | exact ⟨rfl, Below.refl _ _, eD_none rfl⟩ | exact ⟨hC, Below.refl _ _, eD_none rfl⟩
      have e' : vs 9 = _ := e
      rw [e']
      clear e e'
      simp only [Act.put, List.setIfInBounds_toArray, List.set_cons_succ, List.set_cons_zero]
      refine ⟨.inl ⟨rfl, fun dd w' hd hC hDs => ?_⟩, fun e => ?_⟩
      · go_simp
        refine ((AW.out w')).mono ?_
        rintro e w2 ⟨rfl, h2⟩
        exact ⟨_, rfl, rfl, hC.trans (h2.mono hC.size), h2, eD_none rfl⟩
      have e' : vs 10 = _ := e
      rw [e']
      clear e e'
      simp only [Act.put, List.setIfInBounds_toArray, List.set_cons_succ, List.set_cons_zero]
      refine ⟨.inl ⟨rfl, fun dd w' hd hC hDs => ?_⟩, fun e => ?_⟩
      · go_simp
        first | exact ⟨rfl, hC, Below.refl _ _, eD_none rfl⟩ | exact ⟨rfl, Below.refl _ _, eD_none rfl⟩ | exact ⟨hC, Below.refl _ _, eD_none rfl⟩
      have e' : vs 11 = _ := e
      rw [e']
      clear e e'
      simp only [Act.put, List.setIfInBounds_toArray, List.set_cons_succ, List.set_cons_zero]
      intro dd w4 hall hC4 hDs
      have db := hid (hb.out.trans (hC4.mono hb.out.size))
      clear hall hC4 hDs E1 E4 B1 B2 hb
      go_wp2_with fail
      go_ret
      exact ⟨rfl, db.out⟩
end TgP
end Go.Proofs.Ytmbhibilmedjmaa
