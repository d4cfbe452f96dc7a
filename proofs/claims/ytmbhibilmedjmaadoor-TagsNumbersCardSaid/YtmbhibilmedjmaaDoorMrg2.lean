/-
  A region that draws its order, whose values may hang on the order and on what a call makes of the world: of each operation's value one states what it is like (S), what the world then holds of it (D, kept by what the others do: K), and which operations have come up (C).
  Rows of bytes of any type compared; loaded, in regions whose values hang on their order.
  Regions whose values hang on their order: what each operation yields as a list of known values, and slices of known bytes wherever they lie.
  Contracts of the Go library's functions over this translation, laid by the kit's own tool.
  Contract of casematelaw17.awake, over LeafC.
  The walk of TagsJoin, over LeafC and JoinC.
  The type of slices of bytes; bytes out of a literal.
  Contracts of casemateref17.part and Plain: the document's rows of one part.
  Contract of casemateref17.Numbered: the document's row of a number and a sector.
  SHA-256 in plain numbers: what one step, one pass and all passes make; nothing of the program stands here.
  Contracts of math/bits.RotateLeft32 and sha.rot over this translation.
  Contract of sha.step over this translation.
  Contract of sha.step over this translation.
  Contract of sha.spread over this translation.
-/
import Derived.Test.YtmbhibilmedjmaaDoorMrg1
import Derived.Shelf.Strings.Builder1
import Derived.Shelf.Strings.Builder2
import Derived.Shelf.Strings.BuilderF
import Derived.Shelf.Strings.Prefix
import Derived.Shelf.Bits.Mul64
import Derived.Shelf.Strings.Repeat
import Derived.Test.YtmbhibilmedjmaaDoorProg
import Derived.Test.YtmbhibilmedjmaaDoorRows
import Derived.WalkKit
import Derived.ProofKit
import Derived.OpenShut
import Derived.StillTailTactics
import Derived.Outline
set_option linter.unusedVariables false
set_option linter.unusedSimpArgs false
set_option maxRecDepth 100000
namespace Go.Proofs.YtmbhibilmedjmaaDoor
open Go.RowKit
/-- One operation, carried out in the world w; R holds of what it yields and of the world behind it. -/
def GivesE (P : Program) (o : Oper) (a : Act) (w : World) (R : Value → World → Prop) : Prop :=
  match (execOp a.eval o).run P w with
  | .ok (.value u) w' => R u w'
  | .ok .skip w' => R undef w'
  | .ok (.enter f args) w' => Calls P f args w' fun e w'' => ∃ v, e = .returned v ∧ R v w''
  | _ => False
theorem wp_of_givesE {P : Program} {o : Oper} {a : Act} {w : World} {R : Value → World → Prop} {K : Act → World → Prop} {Q : Exit → Act → World → Prop}
    (h : GivesE P o a w R) (hK : ∀ v w', R v w' → K (a.put o.dst v) w') : o.wp P a w K Q := by
  unfold GivesE at h
  unfold Oper.wp
  generalize (execOp a.eval o).run P w = r at *
  cases r with
  | ok n w' =>
    cases n <;> simp only at h <;> simp only [Oper.upon]
    case value u => exact hK _ _ h
    case skip => exact hK _ _ h
    case enter f args => exact h.mono fun e w'' ⟨v, he, hr⟩ => by subst he; exact hK _ _ hr
  | halt x w' => cases h
theorem givesE_mono {P : Program} {o : Oper} {a : Act} {w : World} {R R' : Value → World → Prop} (h : GivesE P o a w R) (hr : ∀ v w', R v w' → R' v w') : GivesE P o a w R' := by
  unfold GivesE at *
  generalize (execOp a.eval o).run P w = r at *
  cases r with
  | ok n w' =>
    cases n <;> simp only at h ⊢
    case value u => exact hr _ _ h
    case skip => exact hr _ _ h
    case enter f args => exact h.mono fun e w'' ⟨v, he, hR⟩ => ⟨v, he, hr _ _ hR⟩
  | halt x w' => exact h
section
variable {P : Program} {ops : Array Oper}
/-- The head of a region: the first n operations, in whatever order; behind them the tail. -/
theorem head_anyE {Γ : Type} {n g : Nat} {Q : Exit → Act → World → Prop} {vals : Γ → Nat → Value} {C : Γ → Array Bool → World → Prop} {a0 : Act} (ht : tidy ops = true) (hn : n ≤ ops.size)
    (hstep : ∀ k o, k < n → ops[k]? = some o → ∀ γ L w, L.size = ops.size → Closed ops L → k ∈ Region.ready .any ops L → C γ L w →
      ((Region.wanted o (yielded ops (fr ops (vals γ) (fun j => decide (j < k)) ops.size a0).tmps) = true ∧ GivesE P o (fr ops (vals γ) (fun j => decide (j < k)) ops.size a0) w (fun v w' => ∃ γ', (∀ j, L.getD j false = true → vals γ j = vals γ' j) ∧ vals γ' k = v ∧ C γ' (L.setIfInBounds k true) w')) ∨
      (Region.wanted o (yielded ops (fr ops (vals γ) (fun j => decide (j < k)) ops.size a0).tmps) = false ∧ ∃ γ', (∀ j, L.getD j false = true → vals γ j = vals γ' j) ∧ vals γ' k = undef ∧ C γ' (L.setIfInBounds k true) w)))
    (hsink : ∀ L, L.size = ops.size → Closed ops L → (∀ t, n ≤ t → t < ops.size → L.getD t true = false) → ∀ i, i < n → L.getD i true = false → ∀ t ∈ Region.ready .any ops L, t < n)
    (htail : ∀ γ L w, L.size = ops.size → (∀ i, i < n → L.getD i false = true) → (∀ t, n ≤ t → t < ops.size → L.getD t true = false) → C γ L w →
      wpAny P .any ops Q g L (fr ops (vals γ) (fun j => decide (j < n)) ops.size a0) w) :
    ∀ (f : Nat) (γ : Γ) (L : Array Bool) (w : World), L.size = ops.size → Closed ops L → (∀ t, n ≤ t → t < ops.size → L.getD t true = false) → cnt n L = f → C γ L w →
      wpAny P .any ops Q (f + g) L (fr ops (vals γ) (fun j => L.getD j false) ops.size a0) w
  | 0, γ, L, w, hs, hcl, htl, hc, hC => by
    have hall : ∀ i, i < n → L.getD i false = true := fun i hi => by
      have h1 : ∀ j ∈ List.range n, ¬ (!L.getD j true) = true := List.countP_eq_zero.1 hc
      have h2 := h1 i (List.mem_range.2 hi)
      exact getD_up (by omega) (by simpa using h2)
    rw [Nat.zero_add, fr_congr (l' := fun j => decide (j < n)) fun j hj => ?_]
    · exact htail γ L w hs hall htl hC
    · by_cases hjn : j < n
      · rw [hall j hjn]; simp [hjn]
      · rw [getD_both (htl j (by omega) hj)]; simp [hjn]
  | f + 1, γ, L, w, hs, hcl, htl, hc, hC => by
    rw [show f + 1 + g = (f + g) + 1 by omega]
    -- the least that has not come up may come up
    have hex : ∃ i, i < n ∧ L.getD i true = false := by
      have hpos : 0 < (List.range n).countP fun i => !L.getD i true := by unfold cnt at hc; omega
      obtain ⟨i, hi, h1⟩ := List.countP_pos_iff.1 hpos
      exact ⟨i, List.mem_range.1 hi, by simpa using h1⟩
    have hready : ∃ i, i ∈ Region.ready .any ops L := by
      obtain ⟨i, hi, hun⟩ := hex
      induction i using Nat.strongRecOn with
      | _ i ih =>
        by_cases hless : ∃ j, j < i ∧ L.getD j true = false
        · obtain ⟨j, hj, hjun⟩ := hless
          exact ih j hj (by omega) hjun
        · have hio : i < ops.size := by omega
          refine ⟨i, mem_ready.2 ⟨hun, ops[i], Array.getElem?_eq_getElem hio, fun e he hb => ?_⟩⟩
          have hlt := tidy_edge ht (Array.getElem?_eq_getElem hio) e he hb
          refine getD_up (by omega) ?_
          cases h0 : L.getD e.on true with
          | true => rfl
          | false => exact absurd ⟨e.on, hlt, h0⟩ hless
    obtain ⟨i0, hi0, hun0⟩ := hex
    refine ⟨fun h0 => (by obtain ⟨i, hi⟩ := hready; rw [h0] at hi; cases hi), fun i hi => ?_⟩
    have hin : i < n := hsink L hs hcl htl i0 hi0 hun0 i hi
    obtain ⟨hun, o, ho, _⟩ := mem_ready.1 hi
    have hio : i < ops.size := by omega
    obtain ⟨hex1, hex2⟩ := exec_same (vals := vals γ) (n := ops.size) (a := a0) ht ho hcl hi
    have hst := hstep i o hin ho γ L w hs hcl hi hC
    have hnext : ∀ γ' w', (∀ j, L.getD j false = true → vals γ j = vals γ' j) → C γ' (L.setIfInBounds i true) w' → wpAny P .any ops Q (f + g) (L.setIfInBounds i true) ((fr ops (vals γ) (fun j => L.getD j false) ops.size a0).put o.dst (vals γ' i)) w' := fun γ' w' hag hC' => by
      have ih := head_anyE (g := g) (Q := Q) ht hn hstep hsink htail f γ' (L.setIfInBounds i true) w' (by simpa using hs) (closed_set hcl hi) (fun t h1 h2 => by rw [getD_set_ne true (by omega)]; exact htl t h1 h2)
        (by
          have h1 : cnt n (L.setIfInBounds i true) + 1 = cnt n L := by
            refine countP_one (i := i) (by simpa using hun) ?_ (fun j hj => by rw [getD_set_ne true (Ne.symm hj)]) List.nodup_range (List.mem_range.2 hin)
            simp [show i < L.size by omega]
          omega) hC'
      rw [fr_congr (l' := fun j => L.getD j false || j == i) fun j _ => ?_, fr_set ht (getD_both hun) hio, ← fr_vals fun j _ hj => hag j hj] at ih
      · unfold dstAt at ih; rw [ho] at ih; exact ih
      · by_cases e : j = i
        · subst e; simp [show j < L.size by omega]
        · have : (j == i) = false := by simpa using e
          rw [getD_set_ne false (Ne.symm e), this, Bool.or_false]
    unfold wpOp
    simp only [ho]
    rcases hst with ⟨hw, hg⟩ | ⟨hw, γ', hag, hv, hC'⟩
    · rw [hex2, if_pos hw]
      refine .inl (wp_of_givesE (R := fun v w' => ∃ γ', (∀ j, L.getD j false = true → vals γ j = vals γ' j) ∧ vals γ' i = v ∧ C γ' (L.setIfInBounds i true) w') ?_ fun v w' ⟨γ', hag, hv, hC'⟩ => by rw [← hv]; exact hnext γ' w' hag hC')
      unfold GivesE at hg ⊢
      rw [hex1]; exact hg
    · rw [hex2, hw, if_neg (by simp)]
      rw [← hv]
      exact hnext γ' w hag hC'

theorem region_coreE {id : Nat} {Q : Exit → Act → World → Prop} {Γ : Type} {C : Γ → Array Bool → World → Prop} {a : Act} {w : World} {l : List Oper} (n : Nat) (hm : P.follows .mixedOrders = true) (ht : tidy l.toArray = true) (hB : tailB l.toArray n = true)
    (γ0 : Γ) (hC : C γ0 (Array.replicate l.length false) w.drew) (vals : Γ → Nat → Value)
    (hs : ∀ i o, (l.take n)[i]? = some o → ∀ γ L w, L.size = l.length → i ∈ Region.ready .any l.toArray L → C γ L w →
      ((Region.wanted o (yielded l.toArray (lexF (l.take n) (vals γ) i a).tmps) = true ∧ GivesE P o (lexF (l.take n) (vals γ) i a) w (fun v w' => ∃ γ', (∀ j, L.getD j false = true → vals γ j = vals γ' j) ∧ vals γ' i = v ∧ C γ' (L.setIfInBounds i true) w')) ∨
      (Region.wanted o (yielded l.toArray (lexF (l.take n) (vals γ) i a).tmps) = false ∧ ∃ γ', (∀ j, L.getD j false = true → vals γ j = vals γ' j) ∧ vals γ' i = undef ∧ C γ' (L.setIfInBounds i true) w)))
    (hq : ∀ γ L w', (∀ i, i < n → L.getD i false = true) → C γ L w' → wpList P l.toArray Q (l.drop n) (lexF (l.take n) (vals γ) (l.take n).length a) w') : (Code.region id l.toArray true).wp P Q a w := by
  refine wp_region_any hm ?_
  have hn : n ≤ l.toArray.size := by
    simp only [tailB, Bool.or_eq_true, Bool.and_eq_true, decide_eq_true_eq] at hB
    rcases hB with h | h <;> omega
  have hlen : (l.take n).length = n := by rw [List.length_take]; simp at hn; omega
  simp only [hlen] at hq
  have hfr : ∀ (γ : Γ) i, i ≤ n → lexF (l.take n) (vals γ) i a = fr l.toArray (vals γ) (fun j => decide (j < i)) l.toArray.size a := fun γ i hi => by
    have := lexF_fr (ops := l.toArray) (vals := vals γ) (a := a) hn i hi
    simpa using this
  have H := head_anyE (P := P) (ops := l.toArray) (n := n) (g := l.toArray.size - n) (Q := Q) (vals := vals) (C := C) (a0 := a) ht hn
    (fun k o hk ho γ L w' hsz _ hr hC' => by
      have hko : (l.take n)[k]? = some o := by rw [List.getElem?_take_of_lt hk]; simpa using ho
      have := hs k o hko γ L w' (by simpa using hsz) hr hC'
      rwa [hfr γ k (by omega)] at this)
    (fun L hL hcl htl i hi hun t hr => by
      obtain ⟨hunt, o, ho, _⟩ := mem_ready.1 hr
      have hto : t < l.toArray.size := (Array.getElem?_eq_some_iff.1 ho).1
      simp only [tailB, Bool.or_eq_true, Bool.and_eq_true, decide_eq_true_eq] at hB
      rcases hB with hB | ⟨⟨⟨hB1, hB2⟩, hB3⟩, _⟩
      · omega
      · rcases Nat.lt_or_ge t n with h | h
        · exact h
        · exact absurd hr (tail_waits hB2 hB3 hB1 ⟨hL, hcl, htl⟩ _ i rfl hi hun t h))
    (fun γ L w' hL hall htl hC' => by
      rw [← hfr γ n (Nat.le_refl n)]
      have hlist := hq γ L w' hall hC'
      have hLe : L = tailL n (l.toArray.size - n) := by
        apply Array.ext_getElem?
        intro j
        unfold tailL
        rw [show ((List.replicate n true ++ List.replicate (l.toArray.size - n) false).toArray)[j]? = (List.replicate n true ++ List.replicate (l.toArray.size - n) false)[j]? from List.getElem?_toArray .., List.getElem?_append]
        simp only [List.length_replicate]
        by_cases hj : j < n
        · have := hall j hj
          rw [if_pos hj]
          simp [show j < L.size by omega] at this
          simp [hj, show j < L.size by omega, this]
        · rw [if_neg hj]
          by_cases hj2 : j < l.toArray.size
          · have := htl j (by omega) hj2
            simp [show j < L.size by omega] at this
            rw [Array.getElem?_eq_getElem (by omega), this, List.getElem?_replicate, if_pos (by omega)]
          · rw [Array.getElem?_eq_none (by omega), List.getElem?_replicate, if_neg (by omega)]
      simp only [tailB, Bool.or_eq_true, Bool.and_eq_true, decide_eq_true_eq] at hB
      rcases hB with hB | ⟨⟨⟨hB1, hB2⟩, hB3⟩, hB4⟩
      · rw [show l.toArray.size - n = 0 by omega]
        have hd : l.drop n = [] := List.drop_eq_nil_of_le (by simp at hB; omega)
        rw [hd] at hlist
        refine ⟨?_, hlist⟩
        apply List.eq_nil_iff_forall_not_mem.2
        intro t hr
        obtain ⟨hunt, o, ho, _⟩ := mem_ready.1 hr
        have hto : t < l.toArray.size := (Array.getElem?_eq_some_iff.1 ho).1
        have := hall t (by omega)
        rw [getD_both hunt] at this
        cases this
      · have hdl : (l.drop n).length = l.toArray.size - n := by simp
        have := wpAny_of_seq (P := P) (ops := l.toArray) (md := .any) (Q' := Q) (l.drop n) n L _ w' (fun j => by simp [List.getElem?_drop]) (by rw [hdl, hLe]; exact hB4) hlist
        rwa [hdl] at this)
    (cnt n (Array.replicate l.toArray.size false)) γ0 (Array.replicate l.toArray.size false) w.drew (by simp) (fun j o _ hl => by rw [getD_replicate_false] at hl; cases hl)
    (fun t _ hts => getD_in (by simpa using hts) (getD_replicate_false _ _)) rfl (by simpa using hC)
  have hc : cnt n (Array.replicate l.toArray.size false) = n := by
    unfold cnt
    have : ∀ i ∈ List.range n, (!(Array.replicate l.toArray.size false).getD i true) = true := fun i hi => by
      have hi' := List.mem_range.1 hi
      have : i < l.length := by simp at hn; omega
      simp [this]
    rw [List.countP_eq_length.2 this, List.length_range]
  rw [hc, show n + (l.toArray.size - n) = l.toArray.size by omega] at H
  have hz : fr l.toArray (vals γ0) (fun j => (Array.replicate l.toArray.size false).getD j false) l.toArray.size a = a := by
    rw [fr_congr (l' := fun j => decide (j < 0)) fun j _ => by rw [getD_replicate_false]; simp]
    have := fr_stop (ops := l.toArray) (vals := vals γ0) (k := 0) l.toArray.size a
    rw [Nat.zero_add] at this
    exact this
  rw [hz] at H
  exact H

/-- The operations in the order of the text, the k-th first. -/
def wpE (P : Program) (ops : Array Oper) (S : Nat → Value → Prop) (D : Nat → (Nat → Value) → World → Prop) (K : Nat → (Nat → Value) → World → World → Prop) (C : (Nat → Bool) → World → Prop) (Q : (Nat → Value) → Act → Prop) : Nat → (Nat → Value) → List Oper → Act → Prop
  | _, vs, [], a => Q vs a
  | k, vs, o :: rest, a => ((Region.wanted o (yielded ops a.tmps) = true ∧ ∀ d w, d k = false → C d w → (∀ j, Region.waitsFor .any ops k j = true → D j vs w) →
      GivesE P o a w fun v w' => S k v ∧ C (upB d k) w' ∧ K k vs w w' ∧ D k (updV vs k v) w') ∨
      (Region.wanted o (yielded ops a.tmps) = false ∧ S k undef ∧ (∀ d w, C d w → C (upB d k) w) ∧ ∀ w, D k (updV vs k undef) w)) ∧ (S k (vs k) → wpE P ops S D K C Q (k + 1) vs rest (a.put o.dst (vs k)))
theorem wpE_at {S : Nat → Value → Prop} {D : Nat → (Nat → Value) → World → Prop} {K : Nat → (Nat → Value) → World → World → Prop} {C : (Nat → Bool) → World → Prop} {Qk : (Nat → Value) → Act → Prop} {vs : Nat → Value} (hS : ∀ j, S j (vs j)) : ∀ (l : List Oper) (k : Nat) (a : Act), wpE P ops S D K C Qk k vs l a →
    Qk vs (lexF l (fun i => vs (k + i)) l.length a) ∧ ∀ i o, l[i]? = some o →
      ((Region.wanted o (yielded ops (lexF l (fun i => vs (k + i)) i a).tmps) = true ∧ ∀ d w, d (k + i) = false → C d w → (∀ j, Region.waitsFor .any ops (k + i) j = true → D j vs w) →
        GivesE P o (lexF l (fun i => vs (k + i)) i a) w fun v w' => S (k + i) v ∧ C (upB d (k + i)) w' ∧ K (k + i) vs w w' ∧ D (k + i) (updV vs (k + i) v) w') ∨
      (Region.wanted o (yielded ops (lexF l (fun i => vs (k + i)) i a).tmps) = false ∧ S (k + i) undef ∧ (∀ d w, C d w → C (upB d (k + i)) w) ∧ ∀ w, D (k + i) (updV vs (k + i) undef) w))
  | [], k, a, h => ⟨h, fun i o hi => by simp at hi⟩
  | o :: l, k, a, h => by
    obtain ⟨h1, h2⟩ := h
    obtain ⟨hq, hs⟩ := wpE_at hS l (k + 1) _ (h2 (hS k))
    have e : (fun i => vs (k + 1 + i)) = fun i => vs (k + (i + 1)) := funext fun i => by rw [show k + 1 + i = k + (i + 1) by omega]
    rw [e] at hq hs
    refine ⟨?_, fun i o' hi => ?_⟩
    · rw [List.length_cons, lexF_cons]; exact hq
    · cases i with
      | zero =>
        simp only [List.getElem?_cons_zero, Option.some.injEq] at hi
        subst hi
        exact h1
      | succ i =>
        rw [lexF_cons, show k + (i + 1) = k + 1 + i by omega]
        exact hs i o' (by simpa using hi)
theorem wp_region_ex {id : Nat} {Q : Exit → Act → World → Prop} {C : (Nat → Bool) → World → Prop} {S : Nat → Value → Prop} {D : Nat → (Nat → Value) → World → Prop} {K : Nat → (Nat → Value) → World → World → Prop} {a : Act} {w : World} {l : List Oper} (n : Nat)
    (hm : P.follows .mixedOrders = true) (ht : tidy l.toArray = true) (hB : tailB l.toArray n = true)
    (v0 : Nat → Value) (h0 : ∀ j, S j (v0 j)) (hD : ∀ i j vs w w', i < n → j ≠ i → Region.waitsFor .any l.toArray j i = false → D j vs w → K i vs w w' → D j vs w')
    (hL : ∀ j i vs v w, j ≠ i → Region.waitsFor .any l.toArray j i = false → D j vs w → D j (updV vs i v) w)
    (hC : C (fun _ => false) w.drew)
    (h : ∀ vs : Nat → Value, wpE P l.toArray S D K C (fun vs a' => ∀ d w', (∀ k, k < n → d k = true) → C d w' → (∀ k, k < n → D k vs w') → wpList P l.toArray Q (l.drop n) a' w') 0 vs (l.take n) a) : (Code.region id l.toArray true).wp P Q a w := by
  refine region_coreE (Γ := {vs : Nat → Value // ∀ j, S j (vs j)}) (C := fun γ L w' => C (fun j => L.getD j false) w' ∧ Closed l.toArray L ∧ ∀ k, k < n → L.getD k false = true → D k γ.1 w') n hm ht hB ⟨v0, h0⟩
    ⟨by rw [show (fun j => (Array.replicate l.length false).getD j false) = fun _ => false from funext fun j => getD_replicate_false _ j]; exact hC, (fun j o _ hl => by rw [getD_replicate_false] at hl; cases hl), fun k _ hk => by rw [getD_replicate_false] at hk; cases hk⟩ (fun γ => γ.1) ?_ ?_
  · intro i o hi γ L w' hsz hr ⟨hC', hcl, hDs⟩
    have hin : i < n := by
      have := (List.getElem?_eq_some_iff.1 hi).1
      rw [List.length_take] at this; omega
    have hun := getD_both (mem_ready.1 hr).1
    have hlt : i < L.size := by
      obtain ⟨o', ho', _⟩ := (mem_ready.1 hr).2
      have := (Array.getElem?_eq_some_iff.1 ho').1
      simp at this; omega
    have hup : (fun j => (L.setIfInBounds i true).getD j false) = upB (fun j => L.getD j false) i := funext fun j => by
      unfold upB
      by_cases e : j = i
      · subst e; rw [if_pos rfl]; simp [hlt]
      · rw [if_neg e, getD_set_ne false (Ne.symm e)]
    have hcl2 := closed_set hcl hr
    have key := (wpE_at γ.2 (l.take n) 0 a (h γ.1)).2 i o hi
    simp only [Nat.zero_add] at key
    have hwait : ∀ j, Region.waitsFor .any l.toArray i j = true → D j γ.1 w' := fun j hj => by
      have h1 := waits_ready hr hj
      have hji : j < i := by
        obtain ⟨o2, ho2, e2, he2, hb2, hon⟩ := Region.waitsFor_spec hj
        have := tidy_edge ht ho2 e2 he2 hb2
        omega
      exact hDs j (by omega) h1
    have step : ∀ (v : Value) (w2 : World), C (upB (fun j => L.getD j false) i) w2 → (w2 = w' ∨ K i γ.1 w' w2) → D i (updV γ.1 i v) w2 →
        C (fun j => (L.setIfInBounds i true).getD j false) w2 ∧ Closed l.toArray (L.setIfInBounds i true) ∧ ∀ k, k < n → (L.setIfInBounds i true).getD k false = true → D k (updV γ.1 i v) w2 := fun v w2 hc hb hd => by
      refine ⟨by rw [hup]; exact hc, hcl2, fun k hk hL' => ?_⟩
      by_cases e : k = i
      · subst e; exact hd
      · rw [getD_set_ne false (Ne.symm e)] at hL'
        have hw : Region.waitsFor .any l.toArray k i = false := by
          cases hx : Region.waitsFor .any l.toArray k i with
          | false => rfl
          | true =>
            have := waits_closed hcl hL' hx
            rw [hun] at this
            cases this
        refine hL k i _ v _ e hw ?_
        rcases hb with rfl | hb
        · exact hDs k hk hL'
        · exact hD i k _ _ _ hin e hw (hDs k hk hL') hb
    have upd : ∀ v, S i v → ∀ j, S j (updV γ.1 i v j) := fun v hv j => by
      by_cases e : j = i
      · subst e; rw [updV_self]; exact hv
      · rw [updV_ne _ _ e]; exact γ.2 j
    have keep : ∀ v j, L.getD j false = true → γ.1 j = updV γ.1 i v j := fun v j hj => by
      have : j ≠ i := fun e => by subst e; rw [hun] at hj; cases hj
      rw [updV_ne _ _ this]
    rcases key with ⟨k1, k2⟩ | ⟨k1, k2, k3, k4⟩
    · refine .inl ⟨k1, givesE_mono (k2 _ w' hun hC' hwait) fun v w2 ⟨h1, h2, h3, h4⟩ => ⟨⟨updV γ.1 i v, upd v h1⟩, keep v, updV_self _ _ _, step v w2 h2 (.inr h3) h4⟩⟩
    · exact .inr ⟨k1, ⟨updV γ.1 i undef, upd undef k2⟩, keep undef, updV_self _ _ _, step undef w' (k3 _ _ hC') (.inl rfl) (k4 w')⟩
  · intro γ L w' hall ⟨hC', _, hDs⟩
    have key := (wpE_at γ.2 (l.take n) 0 a (h γ.1)).1
    have ez : (fun i => γ.1 (0 + i)) = γ.1 := funext fun i => by rw [Nat.zero_add]
    rw [ez] at key
    exact key _ w' hall hC' fun k hk => hDs k hk (hall k hk)
end
end Go.Proofs.YtmbhibilmedjmaaDoor
set_option maxRecDepth 100000
namespace Go.Proofs.YtmbhibilmedjmaaDoor
open Go.ChangeShapes Go.WideShapes Go.ChangeAt Go.RowKit
attribute [local go_sem] Gives GivesE
theorem gE_ldA {a : Act} {w : World} {dst : Option Tmp} {ty : TypeId} {pos : String} {after : Array Edge} {x : Operand} {g o n : Nat} {f : Nat → Nat} {T : TypeId} {gd : Option (Nat × Bool)} {R : Value → World → Prop} (hT : ArT T n) (hx : a.eval x = .pointer (some ⟨g, o, none⟩)) (hb : w.rangeAt g o (ar n f).toList) (hR : R (.agg (ar n f)) w) : GivesE Tryd.prog ⟨dst, .load T x, ty, pos, after, gd⟩ a w R := by
  unfold GivesE
  simp only [execOp, hx, Sem.run_bind, run_ldm hT hb, Result.andThen_ok, Sem.run_pure]
  exact hR
section
variable {a : Act} {w : World} {dst : Option Tmp} {ty r : TypeId} {pos : String} {after : Array Edge} {x y : Operand} {f g : Nat → Nat} {gd : Option (Nat × Bool)} {R : Value → World → Prop} {T : TypeId} {n : Nat}
theorem exec_eqU (hT : Tryd.prog.underlying T = some (.array n 5)) (hg : Tryd.prog.eqGuardType Tryd.prog.depth T = false) (hx : a.eval x = .agg (ar n f)) (hy : a.eval y = .agg (ar n g)) : (execOp a.eval ⟨dst, .binOp .eql T x y r, ty, pos, after, gd⟩).run Tryd.prog w = .ok (.value (.bool (eqA n f g))) w := by
  have h1 : (eqGuard .eql T x y (.agg (ar n f)) (.agg (ar n g))).run Tryd.prog w = .ok () w := by
    simp [eqGuard, hg, go_sem]
  simp only [execOp, hx, hy, Sem.run_bind, h1, run_eql_ar hT, Result.andThen_ok, Sem.run_pure]
theorem gE_eqU (hT : Tryd.prog.underlying T = some (.array n 5)) (hg : Tryd.prog.eqGuardType Tryd.prog.depth T = false) (hx : a.eval x = .agg (ar n f)) (hy : a.eval y = .agg (ar n g)) (hR : R (.bool (eqA n f g)) w) : GivesE Tryd.prog ⟨dst, .binOp .eql T x y r, ty, pos, after, gd⟩ a w R := by
  unfold GivesE
  rw [exec_eqU hT hg hx hy]
  exact hR
end
section
variable {ops : Array Oper} {a : Act} {rest : List Oper} {dst : Option Tmp} {ty r : TypeId} {pos : String} {after : Array Edge} {x y : Operand} {f g : Nat → Nat} {gd : Option (Nat × Bool)} {C : World → Prop} {Qk : Act → Prop} {T : TypeId} {n : Nat}
theorem keqU (b : Bool) (hT : Tryd.prog.underlying T = some (.array n 5)) (hg : Tryd.prog.eqGuardType Tryd.prog.depth T = false) (hwt : Region.wanted ⟨dst, .binOp .eql T x y r, ty, pos, after, gd⟩ (yielded ops a.tmps) = true) (hx : a.eval x = .agg (ar n f)) (hy : a.eval y = .agg (ar n g)) (hb : eqA n f g = b)
    (h : wpK Tryd.prog ops C Qk rest (a.put dst (.bool b))) : wpK Tryd.prog ops C Qk (⟨dst, .binOp .eql T x y r, ty, pos, after, gd⟩ :: rest) a :=
  wpK_val hwt (fun w hw => gives_value (w' := w) (by rw [exec_eqU hT hg hx hy, hb]) hw) h
theorem kneU (b : Bool) (hT : Tryd.prog.underlying T = some (.array n 5)) (hg : Tryd.prog.eqGuardType Tryd.prog.depth T = false) (hwt : Region.wanted ⟨dst, .binOp .neq T x y r, ty, pos, after, gd⟩ (yielded ops a.tmps) = true) (hx : a.eval x = .agg (ar n f)) (hy : a.eval y = .agg (ar n g)) (hb : (!eqA n f g) = b)
    (h : wpK Tryd.prog ops C Qk rest (a.put dst (.bool b))) : wpK Tryd.prog ops C Qk (⟨dst, .binOp .neq T x y r, ty, pos, after, gd⟩ :: rest) a :=
  wpK_val hwt (fun w hw => gives_value (w' := w) (by
    have h1 : (eqGuard .neq T x y (.agg (ar n f)) (.agg (ar n g))).run Tryd.prog w = .ok () w := by
      simp [eqGuard, hg, go_sem]
    simp only [execOp, hx, hy, Sem.run_bind, h1, run_neq_ar hT, Result.andThen_ok, Sem.run_pure, hb]) hw) h
/-- A literal of one constant part, in such a region. -/
theorem kbldOne {i : Nat} {v : Value} {cs : Array Value} (hwt : Region.wanted ⟨dst, .build T #[(i, .const v)], ty, pos, after, gd⟩ (yielded ops a.tmps) = true) (hb : ∀ w, (Instr.build T #[(i, v)]).run Tryd.prog w = .ok (.agg cs) w)
    (h : wpK Tryd.prog ops C Qk rest (a.put dst (.agg cs))) : wpK Tryd.prog ops C Qk (⟨dst, .build T #[(i, .const v)], ty, pos, after, gd⟩ :: rest) a :=
  wpK_val hwt (fun w hw => gives_value (w' := w) (by
    have e : (#[(i, Operand.const v)] : Array (Nat × Operand)).map (fun (i, x) => (i, a.eval x)) = #[(i, v)] := by simp only [List.map_toArray, List.map_cons, List.map_nil]; rfl
    simp only [execOp, Sem.run_bind, e, hb, Result.andThen_ok, Sem.run_pure]) hw) h
/-- A literal of no part. -/
theorem kbldZ {cs : Array Value} (hwt : Region.wanted ⟨dst, .build T #[], ty, pos, after, gd⟩ (yielded ops a.tmps) = true) (hb : ∀ w, (Instr.build T #[]).run Tryd.prog w = .ok (.agg cs) w)
    (h : wpK Tryd.prog ops C Qk rest (a.put dst (.agg cs))) : wpK Tryd.prog ops C Qk (⟨dst, .build T #[], ty, pos, after, gd⟩ :: rest) a :=
  wpK_val hwt (fun w hw => gives_value (w' := w) (by
    have e : (#[] : Array (Nat × Operand)).map (fun (i, x) => (i, a.eval x)) = #[] := by simp
    simp only [execOp, Sem.run_bind, e, hb, Result.andThen_ok, Sem.run_pure]) hw) h
end
namespace DvP
theorem uK : Tryd.prog.underlying 23 = some (.array 32 5) := Tryd.underlying23
theorem cells_K : Tryd.prog.cellsOf 23 = 32 := by kernel_rfl
theorem eqg_key : Tryd.prog.eqGuardType Tryd.prog.depth 23 = false := by kernel_rfl
end DvP
end Go.Proofs.YtmbhibilmedjmaaDoor
set_option maxRecDepth 100000
namespace Go.Proofs.YtmbhibilmedjmaaDoor
open Go.ChangeShapes Go.WideShapes Go.ChangeAt Go.RowKit
attribute [local go_sem] GivesE
/-- The bytes of the slice that operation j yields. -/
def slOf : List (Nat × List Nat) → Nat → Option (List Nat)
  | [], _ => none
  | (p, l) :: r, j => if j = p then some l else slOf r j
def eS (fx : List (Option Value)) (sl : List (Nat × List Nat)) (j : Nat) (v : Value) : Prop := match slOf sl j with
  | some l => ∃ (A : Option Addr) (c : Nat), v = .slice A l.length c
  | none => match fx[j]? with
    | some (some u) => v = u
    | _ => True
def eV (fx : List (Option Value)) (sl : List (Nat × List Nat)) (j : Nat) : Value := match slOf sl j with
  | some l => .slice none l.length 0
  | none => match fx[j]? with
    | some (some u) => u
    | _ => undef
theorem eS_ok (fx : List (Option Value)) (sl : List (Nat × List Nat)) (j : Nat) : eS fx sl j (eV fx sl j) := by
  unfold eS eV
  split
  · exact ⟨none, 0, rfl⟩
  · split
    · rfl
    · trivial
def eD (sl : List (Nat × List Nat)) (j : Nat) (vs : Nat → Value) (w : World) : Prop := ∀ l, slOf sl j = some l → ∃ A c, vs j = .slice A l.length c ∧ Arg w A l l.length c
section
variable {sl : List (Nat × List Nat)} {i j : Nat} {vs : Nat → Value} {v : Value} {w w' : World}
theorem eD_below (h : eD sl j vs w) (hb : Below w.heap.size w w') : eD sl j vs w' := fun l e => by obtain ⟨A, c, h1, h2⟩ := h l e; exact ⟨A, c, h1, h2.on hb⟩
theorem eD_loc (hji : j ≠ i) (h : eD sl j vs w) : eD sl j (updV vs i v) w := by
  unfold eD at h ⊢
  rw [updV_ne _ _ hji]
  exact h
theorem eD_none (h : slOf sl j = none) : eD sl j vs w := fun l e => by rw [h] at e; cases e
theorem eD_some {l : List Nat} {A : Option Addr} {c : Nat} (h : slOf sl j = some l) (ha : Arg w A l l.length c) : eD sl j (updV vs j (.slice A l.length c)) w := fun m e => by
  obtain rfl : l = m := Option.some.inj (h.symm.trans e)
  exact ⟨A, c, updV_self _ _ _, ha⟩
end
/-- A slice of the call's own, as a call's answer in such a region. -/
theorem own_sl {w' : World} {B : Nat} {v : Value} {l : List Nat} (ho : Own 5 .u8 w' B v l) (h2 : B256 l) : ∃ (A : Option Addr) (c : Nat), v = .slice A l.length c := by
  obtain ⟨A, c, rfl, ha⟩ := ho.arg h2
  exact ⟨A, c, rfl⟩
theorem own_eD {sl : List (Nat × List Nat)} {j : Nat} {vs : Nat → Value} {w' : World} {B : Nat} {v : Value} {l : List Nat} (h : slOf sl j = some l) (ho : Own 5 .u8 w' B v l) (h2 : B256 l) : eD sl j (updV vs j v) w' := by
  obtain ⟨A, c, rfl, ha⟩ := ho.arg h2
  exact eD_some h ha
theorem wp_region_eS {id : Nat} {Q : Exit → Act → World → Prop} {a : Act} {w : World} {l : List Oper} (fx : List (Option Value)) (sl : List (Nat × List Nat)) (n : Nat) (hm : Tryd.prog.follows .mixedOrders = true) (ht : tidy l.toArray = true) (hB : tailB l.toArray n = true)
    (h : ∀ vs : Nat → Value, wpE Tryd.prog l.toArray (eS fx sl) (eD sl) (fun _ _ w w' => Below w.heap.size w w') (fun _ w' => Below w.heap.size w w') (fun vs a' => ∀ (d : Nat → Bool) w', (∀ k, k < n → d k = true) → Below w.heap.size w w' → (∀ k, k < n → eD sl k vs w') → wpList Tryd.prog l.toArray Q (l.drop n) a' w') 0 vs (l.take n) a) :
    (Code.region id l.toArray true).wp Tryd.prog Q a w :=
  wp_region_ex (S := eS fx sl) (D := eD sl) (K := fun _ _ w w' => Below w.heap.size w w') (C := fun _ w' => Below w.heap.size w w') n hm ht hB _ (eS_ok _ _) (fun i j vs w w' _ _ _ h hb => eD_below h hb) (fun j i vs v w hji _ h => eD_loc hji h) (Below.refl _ _).drew h
end Go.Proofs.YtmbhibilmedjmaaDoor
namespace Go.Proofs
open Go.Shelf
def Tryd.lays170_ren : Go.Shelf.Ren := ⟨fun | 170 => 41 | n => n, fun | 70 => 50 | 3 => 3 | 0 => 0 | 72 => 52 | 37 => 26 | 5 => 5 | n => n, fun | n => n⟩
theorem Tryd.lays170 : Go.Proofs.Lays.n170 Tryd.prog Tryd.lays170_ren := {
  mixed := by kernel_rfl
  f170 := Tryd.func41.trans (congrArg some (by kernel_rfl))
  t0 := Tryd.underlying0
  a0 := Tryd.isAgg0
  z0 := Tryd.sizeOf0
  v0 := Tryd.zeroValue0
  t3 := Tryd.underlying3
  a3 := Tryd.isAgg3
  z3 := Tryd.sizeOf3
  v3 := Tryd.zeroValue3
  t37 := Tryd.underlying26
  a37 := Tryd.isAgg26
  z37 := Tryd.sizeOf26
  v37 := Tryd.zeroValue26
  t70 := Tryd.underlying50
  a70 := Tryd.isAgg50
  z70 := Tryd.sizeOf50
  v70 := Tryd.zeroValue50
  t72 := Tryd.underlying52
  a72 := Tryd.isAgg52
  z72 := Tryd.sizeOf52
  v72 := Tryd.zeroValue52 }
open Go.RowKit in
theorem Tryd.Builder_Len (B b : Nat) (bs : List Value) (w : World) (h : Lib.IsBuilder 52 5 B b bs w) :
    Calls Tryd.prog 41 #[.pointer (some ⟨b, 0, none⟩)] w fun e w' => e = .returned (.int .i64 bs.length) ∧ w' = w := Any.Builder_Len Tryd.lays170 B b bs w h
def Tryd.lays169_ren : Go.Shelf.Ren := ⟨fun | 169 => 42 | n => n, fun | 70 => 50 | 9 => 9 | 0 => 0 | 72 => 52 | 37 => 26 | 127 => 78 | 3 => 3 | 5 => 5 | n => n, fun | n => n⟩
theorem Tryd.lays169 : Go.Proofs.Lays.n169 Tryd.prog Tryd.lays169_ren := {
  mixed := by kernel_rfl
  f169 := Tryd.func42.trans (congrArg some (by kernel_rfl))
  t0 := Tryd.underlying0
  a0 := Tryd.isAgg0
  z0 := Tryd.sizeOf0
  v0 := Tryd.zeroValue0
  t3 := Tryd.underlying3
  a3 := Tryd.isAgg3
  z3 := Tryd.sizeOf3
  v3 := Tryd.zeroValue3
  t9 := Tryd.underlying9
  a9 := Tryd.isAgg9
  z9 := Tryd.sizeOf9
  v9 := Tryd.zeroValue9
  t37 := Tryd.underlying26
  a37 := Tryd.isAgg26
  z37 := Tryd.sizeOf26
  v37 := Tryd.zeroValue26
  t70 := Tryd.underlying50
  a70 := Tryd.isAgg50
  z70 := Tryd.sizeOf50
  v70 := Tryd.zeroValue50
  t72 := Tryd.underlying52
  a72 := Tryd.isAgg52
  z72 := Tryd.sizeOf52
  v72 := Tryd.zeroValue52
  t127 := Tryd.underlying78
  a127 := Tryd.isAgg78
  z127 := Tryd.sizeOf78
  v127 := Tryd.zeroValue78 }
theorem Tryd.Builder_Extra_169 : Builder.Extra Tryd.prog Tryd.lays169_ren := {
  sizeBuilder := by kernel_rfl
  liesBuilder := by kernel_rfl
  t5 := Tryd.underlying5
  a5 := Tryd.isAgg5
  z5 := Tryd.sizeOf5
  v5 := Tryd.zeroValue5
  infoByte := by kernel_rfl
  cellsByte := by kernel_rfl
  sizeByte := by kernel_rfl
  neB5 := by decide }
open Go.RowKit in
theorem Tryd.Builder_String (B b : Nat) (l : List UInt8) (w : World) (h : Lib.IsBuilder 52 5 B b (Lib.byteCells l) w) (h0 : l ≠ []) :
    Calls Tryd.prog 42 #[.pointer (some ⟨b, 0, none⟩)] w fun e w' => e = .returned (.string ⟨l.toArray⟩) ∧ Below B w w' := Any.Builder_String Tryd.lays169 Tryd.Builder_Extra_169 B b l w h h0
open Go.RowKit in
theorem Tryd.Builder_String_empty (B b : Nat) (w : World) (h : Lib.IsBuilder 52 5 B b [] w) (hBw : B ≤ w.heap.size) :
    Calls Tryd.prog 42 #[.pointer (some ⟨b, 0, none⟩)] w fun e w' => e = .returned (.string ⟨#[]⟩) ∧ Below B w w' := Any.Builder_String_empty Tryd.lays169 Tryd.Builder_Extra_169 B b w h hBw
open Go.RowKit in
theorem Tryd.Builder_String_any (B b : Nat) (l : List UInt8) (w : World) (h : Lib.IsBuilder 52 5 B b (Lib.byteCells l) w) (hBw : B ≤ w.heap.size) :
    Calls Tryd.prog 42 #[.pointer (some ⟨b, 0, none⟩)] w fun e w' => e = .returned (.string ⟨l.toArray⟩) ∧ Below B w w' := Any.Builder_String_any Tryd.lays169 Tryd.Builder_Extra_169 B b l w h hBw
def Tryd.lays241_ren : Go.Shelf.Ren := ⟨fun | 241 => 52 | 277 => 62 | n => n, fun | 70 => 50 | 3 => 3 | 0 => 0 | 72 => 52 | 37 => 26 | 5 => 5 | n => n, fun | n => n⟩
theorem Tryd.lays241 : Go.Proofs.Lays.n241 Tryd.prog Tryd.lays241_ren := {
  mixed := by kernel_rfl
  f241 := Tryd.func52.trans (congrArg some (by kernel_rfl))
  f277 := Tryd.func62.trans (congrArg some (by kernel_rfl))
  t0 := Tryd.underlying0
  a0 := Tryd.isAgg0
  z0 := Tryd.sizeOf0
  v0 := Tryd.zeroValue0
  t3 := Tryd.underlying3
  a3 := Tryd.isAgg3
  z3 := Tryd.sizeOf3
  v3 := Tryd.zeroValue3
  t37 := Tryd.underlying26
  a37 := Tryd.isAgg26
  z37 := Tryd.sizeOf26
  v37 := Tryd.zeroValue26
  t70 := Tryd.underlying50
  a70 := Tryd.isAgg50
  z70 := Tryd.sizeOf50
  v70 := Tryd.zeroValue50
  t72 := Tryd.underlying52
  a72 := Tryd.isAgg52
  z72 := Tryd.sizeOf52
  v72 := Tryd.zeroValue52 }
theorem Tryd.Builder_Extra_241 : Builder.Extra Tryd.prog Tryd.lays241_ren := {
  sizeBuilder := by kernel_rfl
  liesBuilder := by kernel_rfl
  t5 := Tryd.underlying5
  a5 := Tryd.isAgg5
  z5 := Tryd.sizeOf5
  v5 := Tryd.zeroValue5
  infoByte := by kernel_rfl
  cellsByte := by kernel_rfl
  sizeByte := by kernel_rfl
  neB5 := by decide }
open Go.RowKit in
theorem Tryd.Builder_grow_fresh (B b n : Nat) (w : World) (hB : B ≤ b) (hbk : w.heap[b]? = some (.cells #[.pointer (some ⟨b, 0, none⟩), .slice none 0 0] 52 (0, 0))) (hBw : B ≤ w.heap.size) (hn : n ≤ 281474976710656) :
    Calls Tryd.prog 52 #[.pointer (some ⟨b, 0, none⟩), .int .i64 n] w fun e w' => e = .returned (.tuple #[]) ∧ (Lib.BuilderAt 52 5 B b (.pointer (some ⟨b, 0, none⟩)) [] w' ∧ Below B w w') := Any.Builder_grow_fresh Tryd.lays241 Tryd.Builder_Extra_241 B b n w hB hbk hBw hn
def Tryd.lays165_ren : Go.Shelf.Ren := ⟨fun | 165 => 39 | 240 => 51 | 241 => 52 | 276 => 61 | 277 => 62 | n => n, fun | 70 => 50 | 3 => 3 | 0 => 0 | 4 => 4 | 9 => 9 | 20 => 20 | 72 => 52 | 37 => 26 | 164 => 89 | 5 => 5 | n => n, fun | n => n⟩
theorem Tryd.lays165 : Go.Proofs.Lays.n165 Tryd.prog Tryd.lays165_ren := {
  mixed := by kernel_rfl
  f165 := Tryd.func39.trans (congrArg some (by kernel_rfl))
  f240 := Tryd.func51.trans (congrArg some (by kernel_rfl))
  f241 := Tryd.func52.trans (congrArg some (by kernel_rfl))
  f276 := Tryd.func61.trans (congrArg some (by kernel_rfl))
  f277 := Tryd.func62.trans (congrArg some (by kernel_rfl))
  t0 := Tryd.underlying0
  a0 := Tryd.isAgg0
  z0 := Tryd.sizeOf0
  v0 := Tryd.zeroValue0
  t3 := Tryd.underlying3
  a3 := Tryd.isAgg3
  z3 := Tryd.sizeOf3
  v3 := Tryd.zeroValue3
  t4 := Tryd.underlying4
  a4 := Tryd.isAgg4
  z4 := Tryd.sizeOf4
  v4 := Tryd.zeroValue4
  t9 := Tryd.underlying9
  a9 := Tryd.isAgg9
  z9 := Tryd.sizeOf9
  v9 := Tryd.zeroValue9
  t20 := Tryd.underlying20
  a20 := Tryd.isAgg20
  z20 := Tryd.sizeOf20
  v20 := Tryd.zeroValue20
  t37 := Tryd.underlying26
  a37 := Tryd.isAgg26
  z37 := Tryd.sizeOf26
  v37 := Tryd.zeroValue26
  t70 := Tryd.underlying50
  a70 := Tryd.isAgg50
  z70 := Tryd.sizeOf50
  v70 := Tryd.zeroValue50
  t72 := Tryd.underlying52
  a72 := Tryd.isAgg52
  z72 := Tryd.sizeOf52
  v72 := Tryd.zeroValue52
  t164 := Tryd.underlying89
  a164 := Tryd.isAgg89
  z164 := Tryd.sizeOf89
  v164 := Tryd.zeroValue89 }
theorem Tryd.Builder_Extra_165 : Builder.Extra Tryd.prog Tryd.lays165_ren := {
  sizeBuilder := by kernel_rfl
  liesBuilder := by kernel_rfl
  t5 := Tryd.underlying5
  a5 := Tryd.isAgg5
  z5 := Tryd.sizeOf5
  v5 := Tryd.zeroValue5
  infoByte := by kernel_rfl
  cellsByte := by kernel_rfl
  sizeByte := by kernel_rfl
  neB5 := by decide }
open Go.RowKit in
theorem Tryd.Builder_Grow_fresh (B b n : Nat) (w : World) (hB : B ≤ b) (hbk : w.heap[b]? = some (.cells #[.pointer none, .slice none 0 0] 52 (0, 0))) (hBw : B ≤ w.heap.size) (hn : n ≤ 281474976710656) :
    Calls Tryd.prog 39 #[.pointer (some ⟨b, 0, none⟩), .int .i64 n] w fun e w' => e = .returned (.tuple #[]) ∧ (Lib.BuilderAt 52 5 B b (.pointer (some ⟨b, 0, none⟩)) [] w' ∧ Below B w w') := Any.Builder_Grow_fresh Tryd.lays165 Tryd.Builder_Extra_165 B b n w hB hbk hBw hn
open Go.RowKit in
theorem Tryd.Builder_Len_f (B b : Nat) (bs : List Value) (w : World) (h : Lib.IsBuilderF 52 5 B b bs w) :
    Calls Tryd.prog 41 #[.pointer (some ⟨b, 0, none⟩)] w fun e w' => e = .returned (.int .i64 bs.length) ∧ w' = w := Any.Builder_Len_f Tryd.lays170 B b bs w h
open Go.RowKit in
theorem Tryd.Builder_String_f (B b : Nat) (l : List UInt8) (w : World) (h : Lib.IsBuilderF 52 5 B b (Lib.byteCells l) w) (h0 : l ≠ []) :
    Calls Tryd.prog 42 #[.pointer (some ⟨b, 0, none⟩)] w fun e w' => e = .returned (.string ⟨l.toArray⟩) ∧ (Lib.IsBuilderF 52 5 B b (Lib.byteCells l) w' ∧ Below B w w') := Any.Builder_String_f Tryd.lays169 Tryd.Builder_Extra_169 B b l w h h0
open Go.RowKit in
theorem Tryd.Builder_String_empty_f (B b : Nat) (w : World) (h : Lib.IsBuilderF 52 5 B b [] w) (hBw : B ≤ w.heap.size) :
    Calls Tryd.prog 42 #[.pointer (some ⟨b, 0, none⟩)] w fun e w' => e = .returned (.string ⟨#[]⟩) ∧ (Lib.IsBuilderF 52 5 B b [] w' ∧ Below B w w') := Any.Builder_String_empty_f Tryd.lays169 Tryd.Builder_Extra_169 B b w h hBw
open Go.RowKit in
theorem Tryd.Builder_String_any_f (B b : Nat) (l : List UInt8) (w : World) (h : Lib.IsBuilderF 52 5 B b (Lib.byteCells l) w) (hBw : B ≤ w.heap.size) :
    Calls Tryd.prog 42 #[.pointer (some ⟨b, 0, none⟩)] w fun e w' => e = .returned (.string ⟨l.toArray⟩) ∧ (Lib.IsBuilderF 52 5 B b (Lib.byteCells l) w' ∧ Below B w w') := Any.Builder_String_any_f Tryd.lays169 Tryd.Builder_Extra_169 B b l w h hBw
def Tryd.lays206_ren : Go.Shelf.Ren := ⟨fun | 206 => 50 | n => n, fun | 9 => 9 | 4 => 4 | 3 => 3 | n => n, fun | n => n⟩
theorem Tryd.lays206 : Go.Proofs.Lays.n206 Tryd.prog Tryd.lays206_ren := {
  mixed := by kernel_rfl
  f206 := Tryd.func50.trans (congrArg some (by kernel_rfl))
  t3 := Tryd.underlying3
  a3 := Tryd.isAgg3
  z3 := Tryd.sizeOf3
  v3 := Tryd.zeroValue3
  t4 := Tryd.underlying4
  a4 := Tryd.isAgg4
  z4 := Tryd.sizeOf4
  v4 := Tryd.zeroValue4
  t9 := Tryd.underlying9
  a9 := Tryd.isAgg9
  z9 := Tryd.sizeOf9
  v9 := Tryd.zeroValue9 }
open Go.RowKit Go.Lib in
theorem Tryd.stringslite_HasPrefix (s p : ByteArray) (w : World) :
    Calls Tryd.prog 50 #[.string s, .string p] w fun e w' => e = .returned (.bool (Lib.hasPrefix s.data.toList p.data.toList)) ∧ w' = w := Any.stringslite_HasPrefix Tryd.lays206 s p w
def Tryd.lays99_ren : Go.Shelf.Ren := ⟨fun | 99 => 38 | 206 => 50 | n => n, fun | 9 => 9 | 4 => 4 | 3 => 3 | n => n, fun | n => n⟩
theorem Tryd.lays99 : Go.Proofs.Lays.n99 Tryd.prog Tryd.lays99_ren := {
  mixed := by kernel_rfl
  f99 := Tryd.func38.trans (congrArg some (by kernel_rfl))
  f206 := Tryd.func50.trans (congrArg some (by kernel_rfl))
  t3 := Tryd.underlying3
  a3 := Tryd.isAgg3
  z3 := Tryd.sizeOf3
  v3 := Tryd.zeroValue3
  t4 := Tryd.underlying4
  a4 := Tryd.isAgg4
  z4 := Tryd.sizeOf4
  v4 := Tryd.zeroValue4
  t9 := Tryd.underlying9
  a9 := Tryd.isAgg9
  z9 := Tryd.sizeOf9
  v9 := Tryd.zeroValue9 }
open Go.RowKit Go.Lib in
theorem Tryd.strings_HasPrefix (s p : ByteArray) (w : World) :
    Calls Tryd.prog 38 #[.string s, .string p] w fun e w' => e = .returned (.bool (Lib.hasPrefix s.data.toList p.data.toList)) ∧ w' = w := Any.strings_HasPrefix Tryd.lays99 s p w
def Tryd.lays264_ren : Go.Shelf.Ren := ⟨fun | 264 => 49 | n => n, fun | 53 => 41 | 46 => 46 | n => n, fun | n => n⟩
theorem Tryd.lays264 : Go.Proofs.Lays.n264 Tryd.prog Tryd.lays264_ren := {
  mixed := by kernel_rfl
  f264 := Tryd.func49.trans (congrArg some (by kernel_rfl))
  t46 := Tryd.underlying46
  a46 := Tryd.isAgg46
  z46 := Tryd.sizeOf46
  v46 := Tryd.zeroValue46
  t53 := Tryd.underlying41
  a53 := Tryd.isAgg41
  z53 := Tryd.sizeOf41
  v53 := Tryd.zeroValue41 }
open Go.RowKit Go.Lib in
theorem Tryd.bits_Mul64 (x y : Nat) (hx : x < 18446744073709551616) (hy : y < 18446744073709551616) (w : World) :
    Calls Tryd.prog 49 #[.int .u64 x, .int .u64 y] w fun e w' => e = .returned (.tuple #[.int .u64 ((x * y / 18446744073709551616 : Nat) : Int), .int .u64 ((x * y % 18446744073709551616 : Nat) : Int)]) ∧ w' = w := Any.bits_Mul64 Tryd.lays264 x y hx hy w
def Tryd.lays212_ren : Go.Shelf.Ren := ⟨fun | 212 => 37 | 263 => 48 | 264 => 49 | n => n, fun | 46 => 46 | 51 => 65 | 146 => 74 | 53 => 41 | 148 => 76 | n => n, fun | n => n⟩
theorem Tryd.lays212 : Go.Proofs.Lays.n212 Tryd.prog Tryd.lays212_ren := {
  mixed := by kernel_rfl
  f212 := Tryd.func37.trans (congrArg some (by kernel_rfl))
  f263 := Tryd.func48.trans (congrArg some (by kernel_rfl))
  f264 := Tryd.func49.trans (congrArg some (by kernel_rfl))
  t46 := Tryd.underlying46
  a46 := Tryd.isAgg46
  z46 := Tryd.sizeOf46
  v46 := Tryd.zeroValue46
  t51 := Tryd.underlying65
  a51 := Tryd.isAgg65
  z51 := Tryd.sizeOf65
  v51 := Tryd.zeroValue65
  t53 := Tryd.underlying41
  a53 := Tryd.isAgg41
  z53 := Tryd.sizeOf41
  v53 := Tryd.zeroValue41
  t146 := Tryd.underlying74
  a146 := Tryd.isAgg74
  z146 := Tryd.sizeOf74
  v146 := Tryd.zeroValue74
  t148 := Tryd.underlying76
  a148 := Tryd.isAgg76
  z148 := Tryd.sizeOf76
  v148 := Tryd.zeroValue76 }
open Go.RowKit Go.Lib in
theorem Tryd.bits_Mul (x y : Nat) (hx : x < 18446744073709551616) (hy : y < 18446744073709551616) (w : World) :
    Calls Tryd.prog 37 #[.int .u64 x, .int .u64 y] w fun e w' => e = .returned (.tuple #[.int .u64 ((x * y / 18446744073709551616 : Nat) : Int), .int .u64 ((x * y % 18446744073709551616 : Nat) : Int)]) ∧ w' = w := Any.bits_Mul Tryd.lays212 x y hx hy w
def Tryd.lays105_ren : Go.Shelf.Ren := ⟨fun | 105 => 33 | 212 => 37 | 99 => 38 | 165 => 39 | 166 => 40 | 170 => 41 | 169 => 42 | 263 => 48 | 264 => 49 | 206 => 50 | 240 => 51 | 241 => 52 | 276 => 61 | 277 => 62 | n => n, fun | 9 => 9 | 3 => 3 | 4 => 4 | 20 => 20 | 0 => 0 | 46 => 46 | 109 => 47 | 5 => 5 | 72 => 52 | 76 => 56 | 51 => 65 | 146 => 74 | 53 => 41 | 148 => 76 | 70 => 50 | 37 => 26 | 75 => 55 | 127 => 78 | 164 => 89 | 80 => 59 | n => n, fun | n => n⟩
theorem Tryd.lays105 : Go.Proofs.Lays.n105 Tryd.prog Tryd.lays105_ren := {
  mixed := by kernel_rfl
  f99 := Tryd.func38.trans (congrArg some (by kernel_rfl))
  f105 := Tryd.func33.trans (congrArg some (by kernel_rfl))
  f165 := Tryd.func39.trans (congrArg some (by kernel_rfl))
  f166 := Tryd.func40.trans (congrArg some (by kernel_rfl))
  f169 := Tryd.func42.trans (congrArg some (by kernel_rfl))
  f170 := Tryd.func41.trans (congrArg some (by kernel_rfl))
  f206 := Tryd.func50.trans (congrArg some (by kernel_rfl))
  f212 := Tryd.func37.trans (congrArg some (by kernel_rfl))
  f240 := Tryd.func51.trans (congrArg some (by kernel_rfl))
  f241 := Tryd.func52.trans (congrArg some (by kernel_rfl))
  f263 := Tryd.func48.trans (congrArg some (by kernel_rfl))
  f264 := Tryd.func49.trans (congrArg some (by kernel_rfl))
  f276 := Tryd.func61.trans (congrArg some (by kernel_rfl))
  f277 := Tryd.func62.trans (congrArg some (by kernel_rfl))
  t0 := Tryd.underlying0
  a0 := Tryd.isAgg0
  z0 := Tryd.sizeOf0
  v0 := Tryd.zeroValue0
  t3 := Tryd.underlying3
  a3 := Tryd.isAgg3
  z3 := Tryd.sizeOf3
  v3 := Tryd.zeroValue3
  t4 := Tryd.underlying4
  a4 := Tryd.isAgg4
  z4 := Tryd.sizeOf4
  v4 := Tryd.zeroValue4
  t5 := Tryd.underlying5
  a5 := Tryd.isAgg5
  z5 := Tryd.sizeOf5
  v5 := Tryd.zeroValue5
  t9 := Tryd.underlying9
  a9 := Tryd.isAgg9
  z9 := Tryd.sizeOf9
  v9 := Tryd.zeroValue9
  t20 := Tryd.underlying20
  a20 := Tryd.isAgg20
  z20 := Tryd.sizeOf20
  v20 := Tryd.zeroValue20
  t37 := Tryd.underlying26
  a37 := Tryd.isAgg26
  z37 := Tryd.sizeOf26
  v37 := Tryd.zeroValue26
  t46 := Tryd.underlying46
  a46 := Tryd.isAgg46
  z46 := Tryd.sizeOf46
  v46 := Tryd.zeroValue46
  t51 := Tryd.underlying65
  a51 := Tryd.isAgg65
  z51 := Tryd.sizeOf65
  v51 := Tryd.zeroValue65
  t53 := Tryd.underlying41
  a53 := Tryd.isAgg41
  z53 := Tryd.sizeOf41
  v53 := Tryd.zeroValue41
  t70 := Tryd.underlying50
  a70 := Tryd.isAgg50
  z70 := Tryd.sizeOf50
  v70 := Tryd.zeroValue50
  t72 := Tryd.underlying52
  a72 := Tryd.isAgg52
  z72 := Tryd.sizeOf52
  v72 := Tryd.zeroValue52
  t75 := Tryd.underlying55
  a75 := Tryd.isAgg55
  z75 := Tryd.sizeOf55
  v75 := Tryd.zeroValue55
  t76 := Tryd.underlying56
  a76 := Tryd.isAgg56
  z76 := Tryd.sizeOf56
  v76 := Tryd.zeroValue56
  t109 := Tryd.underlying47
  a109 := Tryd.isAgg47
  z109 := Tryd.sizeOf47
  v109 := Tryd.zeroValue47
  t127 := Tryd.underlying78
  a127 := Tryd.isAgg78
  z127 := Tryd.sizeOf78
  v127 := Tryd.zeroValue78
  t146 := Tryd.underlying74
  a146 := Tryd.isAgg74
  z146 := Tryd.sizeOf74
  v146 := Tryd.zeroValue74
  t148 := Tryd.underlying76
  a148 := Tryd.isAgg76
  z148 := Tryd.sizeOf76
  v148 := Tryd.zeroValue76
  t164 := Tryd.underlying89
  a164 := Tryd.isAgg89
  z164 := Tryd.sizeOf89
  v164 := Tryd.zeroValue89 }
theorem Tryd.Builder_Extra_105 : Builder.Extra Tryd.prog Tryd.lays105_ren := {
  sizeBuilder := by kernel_rfl
  liesBuilder := by kernel_rfl
  t5 := Tryd.underlying5
  a5 := Tryd.isAgg5
  z5 := Tryd.sizeOf5
  v5 := Tryd.zeroValue5
  infoByte := by kernel_rfl
  cellsByte := by kernel_rfl
  sizeByte := by kernel_rfl
  neB5 := by decide }
open Go.RowKit Go.Lib in
theorem Tryd.strings_Repeat_main (s : ByteArray) (c : Nat) (w : World) (hc2 : 2 ≤ c) (hc : c ≤ 9223372036854775807) (hlen : s.size * c ≤ 140737488355328) (h0 : 0 < s.size) :
    Calls Tryd.prog 33 #[.string s, .int .i64 c] w fun e w' => e = .returned (.string ⟨(Lib.repeatL s.data.toList c).toArray⟩) ∧ Below w.heap.size w w' := Any.strings_Repeat_main Tryd.lays105 Tryd.Builder_Extra_105 s c w hc2 hc hlen h0
open Go.RowKit Go.Lib in
theorem Tryd.strings_Repeat_zero (s : ByteArray) (w : World) :
    Calls Tryd.prog 33 #[.string s, .int .i64 0] w fun e w' => e = .returned (.string ⟨#[]⟩) ∧ w' = w := Any.strings_Repeat_zero Tryd.lays105 s w
open Go.RowKit Go.Lib in
theorem Tryd.strings_Repeat_one (s : ByteArray) (w : World) :
    Calls Tryd.prog 33 #[.string s, .int .i64 1] w fun e w' => e = .returned (.string s) ∧ w' = w := Any.strings_Repeat_one Tryd.lays105 s w
open Go.RowKit Go.Lib in
theorem Tryd.strings_Repeat_empty (s : ByteArray) (c : Nat) (w : World) (hc2 : 2 ≤ c) (hc : c ≤ 9223372036854775807) (h0 : s.size = 0) :
    Calls Tryd.prog 33 #[.string s, .int .i64 c] w fun e w' => e = .returned (.string ⟨#[]⟩) ∧ w' = w := Any.strings_Repeat_empty Tryd.lays105 s c w hc2 hc h0
open Go.RowKit Go.Lib in
theorem Tryd.strings_Repeat_negative (s : ByteArray) (c : Int) (w : World) (hc : c < 0) :
    Calls Tryd.prog 33 #[.string s, .int .i64 c] w fun e w' => e = .panicked [{ v := repeatPanic Tryd.lays105_ren "strings: negative Repeat count", recovered := false }] ∧ w' = w := Any.strings_Repeat_negative Tryd.lays105 s c w hc
open Go.RowKit Go.Lib in
theorem Tryd.strings_Repeat_overflow (s : ByteArray) (c : Nat) (w : World) (hc : c ≤ 9223372036854775807) (hs : s.size ≤ 9223372036854775807) (hbig : 9223372036854775807 < s.size * c) :
    Calls Tryd.prog 33 #[.string s, .int .i64 c] w fun e w' => e = .panicked [{ v := repeatPanic Tryd.lays105_ren "strings: Repeat output length overflow", recovered := false }] ∧ w' = w := Any.strings_Repeat_overflow Tryd.lays105 s c w hc hs hbig
open Go.RowKit Go.Lib in
theorem Tryd.strings_Repeat (s : ByteArray) (c : Nat) (w : World) (hc : c ≤ 9223372036854775807) (hlen : s.size * c ≤ 140737488355328) :
    Calls Tryd.prog 33 #[.string s, .int .i64 c] w fun e w' => e = .returned (.string ⟨(Lib.repeatL s.data.toList c).toArray⟩) ∧ Below w.heap.size w w' := Any.strings_Repeat Tryd.lays105 Tryd.Builder_Extra_105 s c w hc hlen
end Go.Proofs
set_option maxRecDepth 100000
namespace Go.Proofs.YtmbhibilmedjmaaDoor
open Go.ChangeShapes Go.WideShapes Go.ChangeAt Go.RowKit
attribute [local go_sem] Gives GivesE
namespace TgP
def sZ : ByteArray := ⟨(Lib.repeatL [0] 64).toArray⟩
def sLit : ByteArray := ⟨#[76, 2, 0, 0, 0, 8, 0, 0, 0, 0, 0, 0, 1, 2, 0, 0, 0, 64]⟩
def lA : List Nat := numT 76 258 fun _ => 0
def lR : List Nat := plainT 82 []
def sR : ByteArray := ⟨#[82, 1, 0, 0, 0, 0]⟩
theorem sA_eq : sLit ++ sZ = str lA := by decide +kernel
theorem sR_eq : str lR = sR := by decide +kernel
theorem zlit_sec : ∀ w, (Instr.build 25 #[]).run Tryd.prog w = .ok (.agg (ar 64 fun _ => 0)) w := fun w => run_build w _ _ _ (by kernel_rfl)
theorem alen : lA.length = 82 := numT_length
theorem rlen : lR.length = 6 := plainT_length
set_option maxHeartbeats 400000 in
set_option maxRecDepth 100000 in
theorem awake_any (H : LeafC) (w : World) : Calls Tryd.prog 17 #[] w fun e w' => e = .returned (.bool true) ∧ Below w.heap.size w w' := by
  have HA := hid (H.leafText 258 (by omega) (fun _ => 0) (by intro i; omega))
  have HR := hid H.rootText
  clear H
  have HEA := hid sA_eq
  have HER := hid sR_eq
  have HLA := hid alen
  have HLR := hid rlen
  have HA2 := hid (show B256 lA from numT_256 (by omega) _ (by intro i; omega))
  have HR2 := hid (show B256 lR from plainT_256 (by omega) (fun x hx => by cases hx))
  rw [show numT 76 258 (fun _ => 0) = lA from rfl] at HA
  have HRR := hid (fun (w : World) => HR.out none [] 0 0 (by omega) w ⟨rfl, Nat.le_refl _, by unfold maxLen; omega, (fun x hx => by cases hx), fun _ => ⟨rfl, rfl⟩, Byt.none rfl⟩)
  rw [show plainT 82 [] = lR from rfl] at HRR
  clear HR
  have HZ := hid (show ∀ w : World, Calls Tryd.prog 33 #[.string ⟨#[0]⟩, .int .i64 64] w fun e w' => e = .returned (.string sZ) ∧ Below w.heap.size w w' from fun w => Tryd.strings_Repeat ⟨#[0]⟩ 64 w (by omega) (by decide))
  go_enter Tryd.func17, Tryd.ntmps17
  go_upto_region 1 with fail
  refine wp_region_eS [some (.agg (ar 64 fun _ => 0)), none, some (.string (str lA)), some (.string sZ), some (.string (str lA)), some (.bool true), some (.bool true), none, some (.string sR), some (.bool true), some (.bool true)] [(1, lA), (7, lR)] 11 (by kernel_rfl) (by kernel_rfl) (by kernel_rfl) fun vs => ?_
  simp only [List.take_succ_cons, List.take_zero, List.drop_succ_cons, List.drop_zero]
  refine ⟨.inl ⟨rfl, fun dd w' hd hC hDs => ?_⟩, fun e => ?_⟩
  · have h1 : (Instr.build 25 #[]).run Tryd.prog w' = .ok (.agg (ar 64 fun _ => 0)) w' := zlit_sec w'
    go_simp
    first | exact ⟨rfl, hC, Below.refl _ _, eD_none rfl⟩ | exact ⟨rfl, Below.refl _ _, eD_none rfl⟩ | exact ⟨hC, Below.refl _ _, eD_none rfl⟩
  have e' : vs 0 = _ := e
  rw [e']
  clear e e'
  simp only [Act.put, List.setIfInBounds_toArray, List.set_cons_succ, List.set_cons_zero]
  refine ⟨.inl ⟨rfl, fun dd w' hd hC hDs => ?_⟩, fun e => ?_⟩
  · go_simp
    refine ((HA.out w')).mono ?_
    rintro e w2 ⟨v, rfl, o2, h2⟩
    have hbs : B256 _ := HA2.out
    exact ⟨_, rfl, own_sl o2 hbs, hC.trans (h2.mono hC.size), h2, own_eD rfl o2 hbs⟩
  obtain ⟨A1, c1, e'⟩ : ∃ (A : Option Addr) (c : Nat), vs 1 = .slice A _ c := e
  rw [e']
  have E1 := hid e'
  clear e'
  simp only [Act.put, List.setIfInBounds_toArray, List.set_cons_succ, List.set_cons_zero]
  refine ⟨.inl ⟨rfl, fun dd w' hd hC hDs => ?_⟩, fun e => ?_⟩
  · obtain ⟨B1, k1, f1, a1⟩ := hDs 1 (by kernel_rfl) lA rfl
    rw [E1.out] at f1
    cases f1
    have h1 : (convert 26 9 (.slice A1 lA.length c1)).run Tryd.prog w' = .ok (.string (str lA)) w' := by exact a1.str
    go_simp
    first | exact ⟨rfl, hC, Below.refl _ _, eD_none rfl⟩ | exact ⟨rfl, Below.refl _ _, eD_none rfl⟩ | exact ⟨hC, Below.refl _ _, eD_none rfl⟩
  have e' : vs 2 = _ := e
  rw [e']
  clear e e'
  simp only [Act.put, List.setIfInBounds_toArray, List.set_cons_succ, List.set_cons_zero]
  refine ⟨.inl ⟨rfl, fun dd w' hd hC hDs => ?_⟩, fun e => ?_⟩
  · go_simp
    refine ((HZ.out w')).mono ?_
    rintro e w2 ⟨rfl, h2⟩
    exact ⟨_, rfl, rfl, hC.trans (h2.mono hC.size), h2, eD_none rfl⟩
  have e' : vs 3 = _ := e
  rw [e']
  clear e e'
  simp only [Act.put, List.setIfInBounds_toArray, List.set_cons_succ, List.set_cons_zero]
  refine ⟨.inl ⟨rfl, fun dd w' hd hC hDs => ?_⟩, fun e => ?_⟩
  · have h1 : (⟨#[76, 2, 0, 0, 0, 8, 0, 0, 0, 0, 0, 0, 1, 2, 0, 0, 0, 64]⟩ : ByteArray) ++ sZ = str lA := HEA.out
    go_simp
    first | exact ⟨rfl, hC, Below.refl _ _, eD_none rfl⟩ | exact ⟨rfl, Below.refl _ _, eD_none rfl⟩ | exact ⟨hC, Below.refl _ _, eD_none rfl⟩
  have e' : vs 4 = _ := e
  rw [e']
  clear e e'
  simp only [Act.put, List.setIfInBounds_toArray, List.set_cons_succ, List.set_cons_zero]
  refine ⟨.inl ⟨rfl, fun dd w' hd hC hDs => ?_⟩, fun e => ?_⟩
  · go_simp
    first | exact ⟨rfl, hC, Below.refl _ _, eD_none rfl⟩ | exact ⟨rfl, Below.refl _ _, eD_none rfl⟩ | exact ⟨hC, Below.refl _ _, eD_none rfl⟩
  have e' : vs 5 = _ := e
  rw [e']
  clear e e'
  simp only [Act.put, List.setIfInBounds_toArray, List.set_cons_succ, List.set_cons_zero]
  refine ⟨.inl ⟨rfl, fun dd w' hd hC hDs => ?_⟩, fun e => ?_⟩
  · go_simp
    first | exact ⟨rfl, hC, Below.refl _ _, eD_none rfl⟩ | exact ⟨rfl, Below.refl _ _, eD_none rfl⟩ | exact ⟨hC, Below.refl _ _, eD_none rfl⟩
  have e' : vs 6 = _ := e
  rw [e']
  clear e e'
  simp only [Act.put, List.setIfInBounds_toArray, List.set_cons_succ, List.set_cons_zero]
  refine ⟨.inl ⟨rfl, fun dd w' hd hC hDs => ?_⟩, fun e => ?_⟩
  · go_simp
    refine ((HRR.out w')).mono ?_
    rintro e w2 ⟨v, rfl, o2, h2⟩
    have hbs : B256 _ := HR2.out
    exact ⟨_, rfl, own_sl o2 hbs, hC.trans (h2.mono hC.size), h2, own_eD rfl o2 hbs⟩
  obtain ⟨A7, c7, e'⟩ : ∃ (A : Option Addr) (c : Nat), vs 7 = .slice A _ c := e
  rw [e']
  have E7 := hid e'
  clear e'
  simp only [Act.put, List.setIfInBounds_toArray, List.set_cons_succ, List.set_cons_zero]
  refine ⟨.inl ⟨rfl, fun dd w' hd hC hDs => ?_⟩, fun e => ?_⟩
  · obtain ⟨B7, k7, f7, a7⟩ := hDs 7 (by kernel_rfl) lR rfl
    rw [E7.out] at f7
    cases f7
    have h1 : (convert 26 9 (.slice A7 lR.length c7)).run Tryd.prog w' = .ok (.string sR) w' := by rw [← HER.out]; exact a7.str
    go_simp
    first | exact ⟨rfl, hC, Below.refl _ _, eD_none rfl⟩ | exact ⟨rfl, Below.refl _ _, eD_none rfl⟩ | exact ⟨hC, Below.refl _ _, eD_none rfl⟩
  have e' : vs 8 = _ := e
  rw [e']
  clear e e'
  simp only [Act.put, List.setIfInBounds_toArray, List.set_cons_succ, List.set_cons_zero]
  refine ⟨.inl ⟨rfl, fun dd w' hd hC hDs => ?_⟩, fun e => ?_⟩
  · have h1 : (sR.toList == [82, 1, 0, 0, 0, 0]) = true := by decide +kernel
    go_simp
    first | exact ⟨rfl, hC, Below.refl _ _, eD_none rfl⟩ | exact ⟨rfl, Below.refl _ _, eD_none rfl⟩ | exact ⟨hC, Below.refl _ _, eD_none rfl⟩
  have e' : vs 9 = _ := e
  rw [e']
  clear e e'
  simp only [Act.put, List.setIfInBounds_toArray, List.set_cons_succ, List.set_cons_zero]
  refine ⟨.inl ⟨rfl, fun dd w' hd hC hDs => ?_⟩, fun e => ?_⟩
  · go_simp
    first | exact ⟨rfl, hC, Below.refl _ _, eD_none rfl⟩ | exact ⟨rfl, Below.refl _ _, eD_none rfl⟩ | exact ⟨hC, Below.refl _ _, eD_none rfl⟩
  have e' : vs 10 = _ := e
  rw [e']
  clear e e'
  simp only [Act.put, List.setIfInBounds_toArray, List.set_cons_succ, List.set_cons_zero]
  intro dd w4 hall hC4 hDs
  have db := hid hC4
  clear hall hC4 hDs
  go_wp2_with fail
  go_ret
  exact ⟨rfl, db.out⟩
end TgP
end Go.Proofs.YtmbhibilmedjmaaDoor
set_option maxRecDepth 100000
namespace Go.Proofs.YtmbhibilmedjmaaDoor
open Go.ChangeShapes Go.WideShapes Go.ChangeAt Go.RowKit
attribute [local go_sem] Gives GivesE
namespace TgP
theorem uT : Tryd.prog.underlying 29 = some (.array 32 5) := Tryd.underlying29
theorem uS : Tryd.prog.underlying 25 = some (.array 64 5) := Tryd.underlying25
theorem eqgT : Tryd.prog.eqGuardType Tryd.prog.depth 29 = false := by kernel_rfl
theorem eqgS : Tryd.prog.eqGuardType Tryd.prog.depth 25 = false := by kernel_rfl
theorem joined_left (f g : Nat → Nat) : ar 32 (joined f g) = ar 32 f := ar_ext fun j hj => by unfold joined; rw [if_pos hj]
theorem joined_right (f g : Nat → Nat) : ar 32 (fun j => joined f g (32 + j)) = ar 32 g := ar_ext fun j hj => by
  show joined f g (32 + j) = g j
  unfold joined
  rw [if_neg (by omega), show 32 + j - 32 = j by omega]
theorem joined_split (s : Nat → Nat) : ar 64 (joined s fun j => s (32 + j)) = ar 64 s := ar_ext fun j hj => by
  unfold joined
  by_cases h : j < 32
  · rw [if_pos h]
  · rw [if_neg h]
    show s (32 + (j - 32)) = s j
    rw [show 32 + (j - 32) = j by omega]
theorem eqA_self {n : Nat} (f : Nat → Nat) : eqA n f f = true := eqA_yes fun _ _ => rfl
end TgP
end Go.Proofs.YtmbhibilmedjmaaDoor
set_option maxRecDepth 100000
namespace Go.Proofs.YtmbhibilmedjmaaDoor
open Go.ChangeShapes Go.WideShapes Go.ChangeAt Go.RowKit
theorem eltB : Elt 26 5 .u8 := elt_of Tryd.underlying26 (by kernel_rfl) (by kernel_rfl) (by kernel_rfl)
theorem byt_lit {w : World} {B g : Nat} {t : TypeId} {cs : Array Value} {fr : Nat × Nat} (h : w.heap[g]? = some (.cells cs t fr)) (hg : g < B) {l : List Nat} (hl : ∀ j, j < l.length → cs[j]? = some (.int .u8 (l.getD j 0 : Nat))) : Byt w B (some ⟨g, 0, none⟩) l := fun _ =>
  ⟨g, 0, rfl, hg, fun i hi => by rw [Nat.zero_add, cell_of_row w g i cs t fr h]; exact hl i hi⟩
theorem lit_ok {l : List Nat} {cs : Array Value} (h : cs = (nums .u8 l).toArray) : ∀ j, j < l.length → cs[j]? = some (.int .u8 (l.getD j 0 : Nat)) := fun j hj => by
  rw [h, List.getElem?_toArray]; exact nums_get .u8 hj
end Go.Proofs.YtmbhibilmedjmaaDoor
set_option maxRecDepth 100000
namespace Go.Proofs.YtmbhibilmedjmaaDoor
open Go.ChangeShapes Go.WideShapes Go.ChangeAt Go.RowKit
attribute [local go_sem] Gives
namespace TgP
set_option maxHeartbeats 400000 in
set_option maxRecDepth 100000 in
theorem rpart_any (A : Option Addr) (l : List Nat) (n cap : Nat) (hn : n ≤ 10000) (w : World) (h : Arg w A l n cap) :
    Calls Tryd.prog 32 #[.slice A n cap] w fun e w' => ∃ v, e = .returned v ∧ Own 5 .u8 w' w.heap.size v (BytM.dig 4 n ++ l) ∧ Below w.heap.size w w' := by
  have H := hid h
  have HN := hid hn
  clear h
  go_enter Tryd.func32, Tryd.ntmps32
  go_upto_region 3 with fail
  have o1 := litN (w := w) (B := w.heap.size) (n := 4) (l := BytM.dig 4 n) (Nat.le_refl _) rfl (by show 4 ≤ maxLen; unfold maxLen; omega) (head_lit hn)
  generalize hw1 : World.alloc w _ = w1 at o1 ⊢
  have hb1 : Below w.heap.size w w1 := by rw [← hw1]; exact (Below.refl _ _).alloc (Nat.le_refl _) _
  clear hw1
  have O1 := hid o1
  have HB := hid hb1
  have A1 := hid (H.out.on hb1)
  clear o1 hb1
  generalize hv1 : Value.slice (some ⟨w.heap.size, 0, none⟩) 4 4 = v1 at O1 ⊢
  clear hv1
  go_wp2_with (at_builtin; (with_reducible apply wappN_any eltB); rfl; rfl; exact A1.out.none; exact O1.out; exact A1.out.byt.nums; exact A1.out.len; (rw [BytM.dig_length]; have := HN.out; omega); exact HB.out.size; intro v2 w2 o2 g2)
  have b2 := below_grown HB.out g2 O1.out (Nat.le_refl _) (Nat.le_refl _)
  go_ret
  exact ⟨_, rfl, o2, b2⟩
set_option maxHeartbeats 400000 in
set_option maxRecDepth 100000 in
theorem rplain_any (d : Nat) (A : Option Addr) (l : List Nat) (n cap : Nat) (hn : n ≤ 10000) (w : World) (h : Arg w A l n cap) :
    Calls Tryd.prog 21 #[.int .u8 d, .slice A n cap] w fun e w' => ∃ v, e = .returned v ∧ Own 5 .u8 w' w.heap.size v (BytM.rowB d [l]) ∧ Below w.heap.size w w' := by
  have H := hid h
  have HN := hid hn
  clear h
  go_enter Tryd.func21, Tryd.ntmps21
  go_wp2_with fail
  refine (rpart_any A l n cap HN.out w H.out).mono ?_
  rintro e w1 ⟨v1, rfl, o1, b1⟩
  have H1 := hid (BytM.dig_256 4 n |>.append H.out.b256)
  obtain ⟨A1, c1, e1, a1⟩ := o1.arg H1.out
  have hl1 : (BytM.dig 4 n ++ l).length = 4 + n := by rw [List.length_append, BytM.dig_length, H.out.len]
  rw [hl1] at e1 a1
  subst e1
  have AR := hid a1
  have B1 := hid b1
  clear a1 b1 o1
  have HM := hid (show ([d, 1] : List Nat).length ≤ maxLen by show 2 ≤ maxLen; unfold maxLen; omega)
  have hb2 : Below w1.heap.size w1 (w1.alloc (.cells #[.int .u8 (d : Nat), .int .u8 1] 5)) := (Below.refl _ _).alloc (Nat.le_refl _) _
  have HB := hid hb2
  have A2 := hid (AR.out.on hb2)
  have O2 := hid (litN (w := w1) (B := w1.heap.size) (n := 2) (l := [d, 1]) (cs := #[.int .u8 (d : Nat), .int .u8 1]) (Nat.le_refl _) rfl HM.out rfl)
  clear hb2
  go_wp2_with (at_builtin; (with_reducible apply wappN_any eltB); rfl; rfl; exact A2.out.none; exact O2.out; exact A2.out.byt.nums; exact A2.out.len; (show 2 + _ ≤ _; have := HN.out; omega); exact HB.out.size; intro v3 w3 o3 g3)
  have b3 := below_grown HB.out g3 O2.out (Nat.le_refl _) (Nat.le_refl _)
  go_ret
  refine ⟨_, rfl, ?_, B1.out.trans (b3.mono B1.out.size)⟩
  have hr : [d, 1] ++ (BytM.dig 4 n ++ l) = BytM.rowB d [l] := by
    unfold BytM.rowB BytM.flatP BytM.flatP
    rw [H.out.len]; simp
  rw [← hr]
  exact ⟨o3.1, o3.2.imp id fun ⟨g, cap, cur, hv, hB, hr⟩ => ⟨g, cap, cur, hv, Nat.le_trans B1.out.size hB, hr⟩⟩
end TgP
end Go.Proofs.YtmbhibilmedjmaaDoor
set_option maxRecDepth 100000
namespace Go.Proofs.YtmbhibilmedjmaaDoor
open Go.ChangeShapes Go.WideShapes Go.ChangeAt Go.RowKit
attribute [local go_sem] Gives
namespace TgP
set_option maxHeartbeats 400000 in
set_option maxRecDepth 100000 in
theorem rnumbered_any (d : Nat) (num : Int) (s : Nat → Nat) (hs : ∀ i, s i < 256) (w : World) :
    Calls Tryd.prog 7 #[.int .u8 d, .int .i64 num, .agg (ar 64 s)] w fun e w' => ∃ v, e = .returned v ∧ Own 5 .u8 w' w.heap.size v (BytM.rowB d [BytM.dig 8 (bits num), ls 64 s]) ∧ Below w.heap.size w w' := by
  have HF := hid hs
  have HU := hid (bits_lt num)
  have hbi : num % 18446744073709551616 = ((bits num : Nat) : Int) := by unfold bits; omega
  clear hs
  go_enter Tryd.func7, Tryd.ntmps7
  go_upto_region 1 with fail
  generalize hw1 : World.alloc w _ = w1
  have B1 := hid (show Blk w1 w.heap.size 25 (ar 64 s) by rw [← hw1]; exact Blk.new _ _ _)
  have BEL := hid (show Below w.heap.size w w1 by rw [← hw1]; exact (Below.refl _ _).alloc (Nat.le_refl _) _)
  clear hw1
  go_upto_region 3 with fail
  rw [show IntKind.u64.wrap num = ((bits num : Nat) : Int) from hbi]
  clear hbi
  obtain ⟨U, hU⟩ : ∃ U, U = bits num := ⟨_, rfl⟩
  have HUE := hid hU
  rw [← hU] at HU ⊢
  clear hU
  have hu1 := B1.out.lt
  go_wp2_with fail
  go_loopw [7, 8, 9] (fun u x v wr => ∃ (i X : Nat) (vo : Value), i ≤ 8 ∧ v = .int .i64 i ∧ u = vo ∧ x = .int .u64 X ∧ X < 18446744073709551616 ∧ Hid (X = U / 256 ^ i) ∧ Hid (Own 5 .u8 wr w1.heap.size vo ((BytM.dig 8 U).drop (8 - i))) ∧ Hid (Below w1.heap.size w1 wr)) (fun _ _ v _ => 8 - (intOf v).toNat)
  case atStart => exact ⟨0, U, _, by omega, rfl, rfl, rfl, HU.out, hid (by simp), hid (by rw [List.drop_of_length_le (by rw [BytM.dig_length]; omega)]; exact Own.nil), hid (Below.refl _ _)⟩
  case round =>
    obtain ⟨i, X, vo, hi, rfl, rfl, rfl, hX, hXe, ho, hb⟩ := hrel
    by_cases hlt : i < 8
    · have ti : (i : Int) < 8 := by omega
      have hd := BytM.dig_drop (n := U) (show 7 - i < 8 by omega)
      rw [show 8 - 1 - (7 - i) = i by omega, show 7 - i + 1 = 8 - i by omega, ← hXe.out] at hd
      have hq : X / 256 = U / 256 ^ (i + 1) := by rw [hXe.out, Nat.div_div_eq_div_mul, ← Nat.pow_succ]
      have hl8 : ((BytM.dig 8 U).drop (8 - i)).length = i := by rw [List.length_drop, BytM.dig_length]; omega
      have h256 : B256 ((BytM.dig 8 U).drop (8 - i)) := (BytM.dig_256 8 U).drop _
      obtain ⟨A, c, e, ar⟩ := ho.out.arg h256
      rw [hl8] at e ar
      subst e
      have AR := hid ar
      have HL := hid hl8
      have HD := hid hd
      have HQ := hid hq
      have HB := hb
      have BL := hid (show Below wr.heap.size wr (wr.alloc (.cells #[.int .u8 ((X % 256 : Nat) : Int)] 5)) from (Below.refl _ _).alloc (Nat.le_refl _) _)
      have OL := hid (litN (w := wr) (B := w1.heap.size) (n := 1) (l := [X % 256]) (cs := #[.int .u8 ((X % 256 : Nat) : Int)]) hb.out.size rfl (by show 1 ≤ maxLen; unfold maxLen; omega) rfl)
      have A2 := hid (AR.out.on BL.out)
      clear ar hl8 hd hq h256 ho hXe
      go_wp2_with (at_builtin; (with_reducible apply wappN_any eltB); rfl; rfl; exact A2.out.none; exact OL.out; exact A2.out.byt.nums; exact A2.out.len; (show 1 + _ ≤ _; omega); exact Nat.le_trans HB.out.size BL.out.size; intro v2 w2 o2 g2)
      have b2 := below_grown (HB.out.trans (BL.out.mono HB.out.size)) g2 OL.out (Nat.le_refl _) (Nat.le_refl _)
      go_roundw
      case rel => exact ⟨i + 1, X / 256, v2, by omega, by go_num, rfl, by simp, by omega, HQ, hid (by rw [show 8 - (i + 1) = 7 - i by omega, HD.out]; exact o2), hid b2⟩
      case measure => simp [intOf] <;> omega
    · have hi8 : i = 8 := by omega
      have ti : decide ((i : Int) < 8) = false := decide_eq_false (by omega)
      have o9 := ho.out
      rw [hi8, List.drop_zero] at o9
      obtain ⟨An, nc, rfl, an⟩ := o9.arg (BytM.dig_256 8 U)
      rw [BytM.dig_length] at an ⊢
      have AN := hid an
      have B2 := hid (B1.out.below hb.out hu1)
      have BE2 := hid (BEL.out.trans (hb.out.mono BEL.out.size))
      clear o9 an ho hb hXe B1 BEL hi8 hlt hi
      have hu2 := B2.out.lt
      go_wp2_with fail
      clear ti
      generalize (i : Int) = i8
      go_loopw [10, 11] (fun u v w2 => ∃ (i : Nat) (vo : Value), i ≤ 64 ∧ v = .int .i64 i ∧ u = vo ∧ Hid (Own 5 .u8 w2 wr.heap.size vo ((ls 64 s).take i)) ∧ Hid (Below wr.heap.size wr w2)) (fun _ v _ => 64 - (intOf v).toNat)
      case atStart => exact ⟨0, _, by omega, rfl, rfl, hid Own.nil, hid (Below.refl _ _)⟩
      case round =>
        obtain ⟨i, vo, hi, rfl, rfl, ho, hb⟩ := hrel
        have hzw := hb.out.size
        by_cases hlt : i < 64
        · have ti : (i : Int) < 64 := by omega
          have q1 := ((B2.out.below hb.out hu2).cell i).trans (get_ar hlt)
          have hst := ls_take s hlt
          have hlen : ((ls 64 s).take i).length = i := by rw [List.length_take, ls_length]; omega
          have hx := HF.out i
          generalize s i = x at *
          have HST := hid hst
          have HLEN := hid hlen
          clear hst hlen
          go_wp2_with (at_builtin; (with_reducible apply wappN eltB); rfl; rfl; exact ho.out.alloc _; exact nums_one (x := x) (B := wr.heap.size + 1) rfl (Nat.lt_succ_self _); rfl; (rw [HLEN.out]; omega); (simp; omega); intro v' w4 o4 g4)
          have b4 := below_grown (hb.out.alloc hzw (.cells #[.int .u8 (x : Nat)] 5)) g4 ho.out (Nat.le_refl _) (Nat.le_refl _)
          go_roundw
          case rel => exact ⟨i + 1, v', by omega, by go_num, rfl, hid (by rw [HST.out]; exact o4), hid b4⟩
          case measure => simp [intOf] <;> omega
        · obtain rfl : i = 64 := by omega
          have o9 := ho.out
          rw [ls_full] at o9
          obtain ⟨Ad, dc, rfl, ad⟩ := o9.arg (ls_256 HF.out)
          rw [ls_length] at ad ⊢
          have AD := hid ad
          have AN3 := hid (AN.out.on hb.out)
          have BE3 := hid (BE2.out.trans (hb.out.mono BE2.out.size))
          clear o9 ad ho hb BE2 AN B2
          go_upto_region 14 with fail
          have hb2 : Below wr.heap.size wr (wr.alloc (.cells #[.int .u8 (d : Nat), .int .u8 2] 5)) := (Below.refl _ _).alloc (Nat.le_refl _) _
          have O2 := hid (litN (w := wr) (B := wr.heap.size) (n := 2) (l := [d, 2]) (cs := #[.int .u8 (d : Nat), .int .u8 2]) (Nat.le_refl _) rfl (by show 2 ≤ maxLen; unfold maxLen; omega) rfl)
          generalize hw3 : World.alloc wr _ = w3 at hb2 O2 ⊢
          clear hw3
          have BE4 := hid (BE3.out.trans (hb2.mono BE3.out.size))
          have AN4 := hid (AN3.out.on hb2)
          have AD4 := hid (AD.out.on hb2)
          have HZ3 := hid hb2.size
          have HW := hid BE3.out.size
          clear hb2 BE3 AN3 AD
          generalize hv1 : Value.slice (some ⟨wr.heap.size, 0, none⟩) 2 2 = v1 at O2 ⊢
          clear hv1
          go_wp2_with fail
          refine (rpart_any An (BytM.dig 8 U) 8 nc (by omega) w3 AN4.out).mono ?_
          rintro e w4 ⟨v4, rfl, o4, b4⟩
          have D4 := hid (BytM.dig_256 4 8 |>.append (BytM.dig_256 8 U))
          obtain ⟨A4, c4, e4, a4⟩ := o4.arg D4.out
          rw [show (BytM.dig 4 8 ++ BytM.dig 8 U).length = 12 by rw [List.length_append, BytM.dig_length, BytM.dig_length]] at e4 a4
          subst e4
          have R4 := hid a4
          have BE5 := hid (BE4.out.trans (b4.mono BE4.out.size))
          have HZ4 := hid (Nat.le_trans HZ3.out b4.size)
          have AD5 := hid (AD4.out.on b4)
          have O5 := hid (O2.out.below b4)
          clear o4 a4 b4 AN4 AD4 BE4 O2
          go_wp2_with fail
          refine (rpart_any Ad (ls 64 s) 64 dc (by omega) w4 AD5.out).mono ?_
          rintro e w5 ⟨v5, rfl, o5, b5⟩
          have D5 := hid (BytM.dig_256 4 64 |>.append (ls_256 (n := 64) HF.out))
          obtain ⟨A5, c5, e5, a5⟩ := o5.arg D5.out
          rw [show (BytM.dig 4 64 ++ ls 64 s).length = 68 by rw [List.length_append, BytM.dig_length, ls_length]] at e5 a5
          subst e5
          have R5 := hid a5
          have BE6 := hid (BE5.out.trans (b5.mono BE5.out.size))
          have HZ := hid (Nat.le_trans HZ4.out b5.size)
          have O6 := hid (O5.out.below b5)
          have AP := hid (show Apart (.slice A5 68 c5) v1 from fun g h1 h2 => by have := (World.ownsRow.lt o5 g h1).1; have := (World.ownsRow.lt O5.out g h2).2; omega)
          have P5 := hid o5
          have R4' := hid (R4.out.on b5)
          clear o5 a5 b5 AD5 BE5 O5 R4
          go_upto_region 17 with (at_builtin; (with_reducible apply wappN_any eltB); rfl; rfl; exact R4'.out.none; exact O6.out; exact R4'.out.byt.nums; exact R4'.out.len; (show 2 + _ ≤ _; omega); exact HZ.out; intro v7 w7 o7 g7)
          have o8 := P5.out.keep (u := v1) g7 AP.out
          have R8 := hid (toArg o8 D5.out)
          have BE7 := hid (below_grown BE6.out g7 O6.out HW.out (Nat.le_refl _))
          have O7 := hid o7
          have HZ7 := hid (Nat.le_trans HZ.out g7.size)
          clear o8 g7 o7 AP P5 R5 O6 BE6 R4'
          go_wp2_with (at_builtin; (with_reducible apply wappN_any eltB); rfl; rfl; exact R8.out.none; exact O7.out; exact R8.out.byt.nums; exact R8.out.len; (rw [List.length_append, List.length_append, BytM.dig_length, BytM.dig_length]; show 2 + (4 + 8) + 68 ≤ _; omega); exact HZ7.out; intro v9 w9 o9 g9)
          have b9 := below_grown BE7.out g9 O7.out HW.out (Nat.le_refl _)
          go_ret
          refine ⟨_, rfl, ?_, b9⟩
          have hr : [d, 2] ++ (BytM.dig 4 8 ++ BytM.dig 8 U) ++ (BytM.dig 4 64 ++ ls 64 s) = BytM.rowB d [BytM.dig 8 U, ls 64 s] := by
            unfold BytM.rowB BytM.flatP BytM.flatP BytM.flatP
            rw [BytM.dig_length, ls_length]; simp
          rw [← HUE.out, ← hr]
          exact ⟨o9.1, o9.2.imp id fun ⟨g, cap, cur, hv, hB, hr⟩ => ⟨g, cap, cur, hv, Nat.le_trans HW.out hB, hr⟩⟩
end TgP
end Go.Proofs.YtmbhibilmedjmaaDoor
namespace Go.Proofs.YtmbhibilmedjmaaDoor.ShaM
/-- The n lowest bits come to the top. -/
def rr (x n : Nat) : Nat := (x * 2 ^ (32 - n)) % 4294967296 ||| x / 2 ^ n
def add (a b : Nat) : Nat := (a + b) % 4294967296
def not32 (x : Nat) : Nat := 4294967295 - x
structure S8 where
  a : Nat
  b : Nat
  c : Nat
  d : Nat
  e : Nat
  f : Nat
  g : Nat
  h : Nat
deriving DecidableEq
def S8.get (s : S8) : Nat → Nat
  | 0 => s.a
  | 1 => s.b
  | 2 => s.c
  | 3 => s.d
  | 4 => s.e
  | 5 => s.f
  | 6 => s.g
  | 7 => s.h
  | _ => 0
def S8.ok (s : S8) : Prop := s.a < 4294967296 ∧ s.b < 4294967296 ∧ s.c < 4294967296 ∧ s.d < 4294967296 ∧ s.e < 4294967296 ∧ s.f < 4294967296 ∧ s.g < 4294967296 ∧ s.h < 4294967296
theorem S8.get_lt {s : S8} (h : s.ok) : ∀ k, s.get k < 4294967296
  | 0 => h.1
  | 1 => h.2.1
  | 2 => h.2.2.1
  | 3 => h.2.2.2.1
  | 4 => h.2.2.2.2.1
  | 5 => h.2.2.2.2.2.1
  | 6 => h.2.2.2.2.2.2.1
  | 7 => h.2.2.2.2.2.2.2
  | _ + 8 => by simp [S8.get]
theorem S8.eq_get {s t : S8} (h : ∀ k, k < 8 → s.get k = t.get k) : s = t := by
  cases s; cases t
  have h0 := h 0 (by omega); have h1 := h 1 (by omega); have h2 := h 2 (by omega); have h3 := h 3 (by omega)
  have h4 := h 4 (by omega); have h5 := h 5 (by omega); have h6 := h 6 (by omega); have h7 := h 7 (by omega)
  simp only [S8.get] at h0 h1 h2 h3 h4 h5 h6 h7
  subst h0 h1 h2 h3 h4 h5 h6 h7
  rfl
/-- p and q of a step; x: salt and message's number. -/
def pOf (s : S8) (x : Nat) : Nat := add (add (add s.h (rr s.e 6 ^^^ rr s.e 11 ^^^ rr s.e 25)) ((s.e &&& s.f) ^^^ (not32 s.e &&& s.g))) x
def qOf (s : S8) : Nat := add (rr s.a 2 ^^^ rr s.a 13 ^^^ rr s.a 22) ((s.a &&& s.b) ^^^ (s.a &&& s.c) ^^^ (s.b &&& s.c))
def step (s : S8) (x : Nat) : S8 := ⟨add (pOf s x) (qOf s), s.a, s.b, s.c, add s.d (pOf s x), s.e, s.f, s.g⟩
theorem add_lt (a b : Nat) : add a b < 4294967296 := Nat.mod_lt _ (by omega)
theorem step_ok {s : S8} (h : s.ok) (x : Nat) : (step s x).ok := ⟨add_lt _ _, h.1, h.2.1, h.2.2.1, add_lt _ _, h.2.2.2.2.1, h.2.2.2.2.2.1, h.2.2.2.2.2.2.1⟩
theorem rr_lt {x : Nat} (h : x < 4294967296) (n : Nat) : rr x n < 4294967296 := by
  unfold rr
  exact Nat.or_lt_two_pow (n := 32) (Nat.mod_lt _ (by omega)) (Nat.lt_of_le_of_lt (Nat.div_le_self _ _) h)
/-- The number of four bytes. -/
def word (b : Nat → Nat) (j : Nat) : Nat := ((b (4 * j) * 256 + b (4 * j + 1)) * 256 + b (4 * j + 2)) * 256 + b (4 * j + 3)
def l0 (x : Nat) : Nat := rr x 7 ^^^ rr x 18 ^^^ (x / 8)
def l1 (x : Nat) : Nat := rr x 17 ^^^ rr x 19 ^^^ (x / 1024)
/-- The next number of the message. -/
def next (m : List Nat) (n : Nat) : Nat := add (add (add (m.getD (n - 16) 0) (l0 (m.getD (n - 15) 0))) (m.getD (n - 7) 0)) (l1 (m.getD (n - 2) 0))
def ext : Nat → List Nat → List Nat
  | 0, m => m
  | k + 1, m => ext k (m ++ [next m m.length])
def first (b : Nat → Nat) : List Nat := (List.range 16).map (word b)
def sched (b : Nat → Nat) : List Nat := ext 48 (first b)
theorem ext_succ : ∀ (k : Nat) (m : List Nat), ext (k + 1) m = ext k m ++ [next (ext k m) (ext k m).length]
  | 0, m => rfl
  | k + 1, m => by rw [ext, ext_succ k]; rfl
theorem ext_length : ∀ (k : Nat) (m : List Nat), (ext k m).length = m.length + k
  | 0, m => rfl
  | k + 1, m => by rw [ext_succ, List.length_append, ext_length k]; simp; omega
theorem first_length (b : Nat → Nat) : (first b).length = 16 := by simp [first]
theorem sched_length (b : Nat → Nat) : (sched b).length = 64 := (ext_length 48 (first b)).trans (by rw [first_length])
theorem ext_get_old (k : Nat) (m : List Nat) (i : Nat) (h : i < m.length + k) : (ext (k + 1) m).getD i 0 = (ext k m).getD i 0 := by
  rw [ext_succ, List.getD_eq_getElem?_getD, List.getD_eq_getElem?_getD, List.getElem?_append_left (by rw [ext_length]; exact h)]
theorem getD_last (l : List Nat) (x : Nat) : (l ++ [x]).getD l.length 0 = x := by
  rw [List.getD_eq_getElem?_getD, List.getElem?_append_right (Nat.le_refl _), Nat.sub_self]; rfl
theorem ext_get_new (k : Nat) (m : List Nat) : (ext (k + 1) m).getD (m.length + k) 0 = next (ext k m) (m.length + k) := by
  have h := getD_last (ext k m) (next (ext k m) (ext k m).length)
  rw [← ext_succ, ext_length] at h
  exact h
theorem first_get (b : Nat → Nat) {j : Nat} (h : j < 16) : (first b).getD j 0 = word b j := by
  simp [first, h]
theorem word_lt {b : Nat → Nat} (hb : ∀ k, b k < 256) (j : Nat) : word b j < 4294967296 := by
  have h0 := hb (4 * j); have h1 := hb (4 * j + 1); have h2 := hb (4 * j + 2); have h3 := hb (4 * j + 3)
  unfold word; omega
theorem getD_lt {m : List Nat} {M : Nat} (h0 : 0 < M) (h : ∀ x ∈ m, x < M) (i : Nat) : m.getD i 0 < M := by
  rw [List.getD_eq_getElem?_getD]
  cases e : m[i]? with
  | none => simpa using h0
  | some x => exact h x (List.mem_of_getElem? e)
theorem ext_lt : ∀ (k : Nat) {m : List Nat}, (∀ x ∈ m, x < 4294967296) → ∀ x ∈ ext k m, x < 4294967296
  | 0, _, h => h
  | k + 1, m, h => by
    rw [ext_succ]
    intro x hx
    rcases List.mem_append.1 hx with hx | hx
    · exact ext_lt k h x hx
    · rw [List.mem_singleton.1 hx]; exact add_lt _ _
theorem first_lt {b : Nat → Nat} (hb : ∀ k, b k < 256) : ∀ x ∈ first b, x < 4294967296 := by
  intro x hx
  obtain ⟨j, _, rfl⟩ := List.mem_map.1 hx
  exact word_lt hb j
theorem sched_lt {b : Nat → Nat} (hb : ∀ k, b k < 256) (i : Nat) : (sched b).getD i 0 < 4294967296 := getD_lt (by omega) (ext_lt 48 (first_lt hb)) i
/-- The salts. -/
def salts : List Nat := [1116352408, 1899447441, 3049323471, 3921009573, 961987163, 1508970993, 2453635748, 2870763221, 3624381080, 310598401, 607225278, 1426881987, 1925078388, 2162078206, 2614888103, 3248222580, 3835390401, 4022224774, 264347078, 604807628, 770255983, 1249150122, 1555081692, 1996064986, 2554220882, 2821834349, 2952996808, 3210313671, 3336571891, 3584528711, 113926993, 338241895, 666307205, 773529912, 1294757372, 1396182291, 1695183700, 1986661051, 2177026350, 2456956037, 2730485921, 2820302411, 3259730800, 3345764771, 3516065817, 3600352804, 4094571909, 275423344, 430227734, 506948616, 659060556, 883997877, 958139571, 1322822218, 1537002063, 1747873779, 1955562222, 2024104815, 2227730452, 2361852424, 2428436474, 2756734187, 3204031479, 3329325298]
def saltAt (n : Nat) : Nat := salts.getD n 0
theorem salt_lt (n : Nat) : saltAt n < 4294967296 := getD_lt (by omega) (by decide) n
/-- The first n steps of a pass. -/
def steps (m : List Nat) : Nat → S8 → S8
  | 0, s => s
  | n + 1, s => step (steps m n s) (add (saltAt n) (m.getD n 0))
theorem steps_ok (m : List Nat) {s : S8} (h : s.ok) : ∀ n, (steps m n s).ok
  | 0 => h
  | n + 1 => step_ok (steps_ok m h n) _
def addS (s t : S8) : S8 := ⟨add s.a t.a, add s.b t.b, add s.c t.c, add s.d t.d, add s.e t.e, add s.f t.f, add s.g t.g, add s.h t.h⟩
theorem addS_get (s t : S8) {k : Nat} (h : k < 8) : (addS s t).get k = add (s.get k) (t.get k) := by
  match k, h with
  | 0, _ | 1, _ | 2, _ | 3, _ | 4, _ | 5, _ | 6, _ | 7, _ => rfl
def pass (s : S8) (b : Nat → Nat) : S8 := addS (steps (sched b) 64 s) s
theorem addS_ok (s t : S8) : (addS s t).ok := ⟨add_lt _ _, add_lt _ _, add_lt _ _, add_lt _ _, add_lt _ _, add_lt _ _, add_lt _ _, add_lt _ _⟩
theorem pass_ok (s : S8) (b : Nat → Nat) : (pass s b).ok := addS_ok _ _
theorem next_congr {m : List Nat} {n : Nat} {m' : List Nat} (h : ∀ i, i < n → m.getD i 0 = m'.getD i 0) (hn : 16 ≤ n) : next m n = next m' n := by
  unfold next
  rw [h (n - 16) (by omega), h (n - 15) (by omega), h (n - 7) (by omega), h (n - 2) (by omega)]
/-! ### The first 16 numbers, as they come up byte by byte -/
def acc (b : Nat → Nat) (o : Nat) : Nat → Nat
  | 0 => 0
  | c + 1 => acc b o c * 256 + b (o + c)
theorem acc_lt {b : Nat → Nat} (hb : ∀ k, b k < 256) (o : Nat) : ∀ c, acc b o c < 256 ^ c
  | 0 => by simp [acc]
  | c + 1 => by
    have h1 := acc_lt hb o c
    have h2 := hb (o + c)
    rw [acc, Nat.pow_succ]
    omega
def part (b : Nat → Nat) (k j : Nat) : Nat := acc b (4 * j) (min (k - 4 * j) 4)
theorem part_zero (b : Nat → Nat) (j : Nat) : part b 0 j = 0 := by unfold part; rw [Nat.zero_sub, Nat.zero_min]; rfl
theorem part_step {b : Nat → Nat} (hb : ∀ k, b k < 256) (k j : Nat) :
    part b (k + 1) j = if j = k / 4 then (part b k j * 256) % 4294967296 ||| b k else part b k j := by
  unfold part
  by_cases h : j = k / 4
  · rw [if_pos h]
    obtain ⟨r, hr, rfl⟩ : ∃ r, r < 4 ∧ k = 4 * j + r := ⟨k % 4, Nat.mod_lt _ (by omega), by omega⟩
    rw [show min (4 * j + r - 4 * j) 4 = r by omega, show min (4 * j + r + 1 - 4 * j) 4 = r + 1 by omega, acc]
    have h1 := acc_lt hb (4 * j) r
    have h2 : 256 ^ r ≤ 16777216 := Nat.le_trans (Nat.pow_le_pow_right (by omega) (show r ≤ 3 by omega)) (by decide)
    rw [Nat.mod_eq_of_lt (by omega)]
    have h3 := Nat.shiftLeft_add_eq_or_of_lt (i := 8) (hb (4 * j + r)) (acc b (4 * j) r)
    rw [Nat.shiftLeft_eq] at h3
    exact h3
  · rw [if_neg h]
    congr 1
    omega
theorem part_full (b : Nat → Nat) {j : Nat} (h : j < 16) : part b 64 j = word b j := by
  unfold part
  rw [show min (64 - 4 * j) 4 = 4 by omega]
  simp [acc, word]
theorem part_none (b : Nat → Nat) {j : Nat} (h : 16 ≤ j) : part b 64 j = 0 := by
  unfold part
  rw [show min (64 - 4 * j) 4 = 0 by omega]; rfl
theorem first_part (b : Nat → Nat) (j : Nat) : (first b).getD j 0 = part b 64 j := by
  rcases Nat.lt_or_ge j 16 with h | h
  · rw [first_get b h, part_full b h]
  · rw [part_none b h, List.getD_eq_getElem?_getD, List.getElem?_eq_none (by rw [first_length]; exact h)]; rfl
theorem part_lt {b : Nat → Nat} (hb : ∀ k, b k < 256) (k j : Nat) : part b k j < 4294967296 := by
  unfold part
  have h1 := acc_lt hb (4 * j) (min (k - 4 * j) 4)
  have h2 : 256 ^ (min (k - 4 * j) 4) ≤ 256 ^ 4 := Nat.pow_le_pow_right (by omega) (Nat.min_le_right _ _)
  have h3 : 256 ^ 4 = 4294967296 := by decide
  omega
/-- The numbers of the message, as far as n. -/
def upM (b : Nat → Nat) (k j : Nat) : Nat := (ext k (first b)).getD j 0
theorem upM_step (b : Nat → Nat) (k j : Nat) : upM b (k + 1) j = if j = 16 + k then next (ext k (first b)) (16 + k) else upM b k j := by
  unfold upM
  have hl : (first b).length = 16 := first_length b
  by_cases h : j = 16 + k
  · rw [if_pos h, h, ← hl]; exact ext_get_new k (first b)
  · rw [if_neg h]
    rcases Nat.lt_or_ge j (16 + k) with h2 | h2
    · exact ext_get_old k (first b) j (by omega)
    · rw [List.getD_eq_getElem?_getD, List.getD_eq_getElem?_getD, List.getElem?_eq_none (by rw [ext_length]; omega), List.getElem?_eq_none (by rw [ext_length]; omega)]
theorem upM_lt {b : Nat → Nat} (hb : ∀ k, b k < 256) (k j : Nat) : upM b k j < 4294967296 := getD_lt (by omega) (ext_lt k (first_lt hb)) j
theorem next_upM (b : Nat → Nat) (k : Nat) : next (ext k (first b)) (16 + k) = add (add (add (upM b k k) (l0 (upM b k (k + 1)))) (upM b k (k + 9))) (l1 (upM b k (k + 14))) := by
  unfold next upM
  rw [show 16 + k - 16 = k by omega, show 16 + k - 15 = k + 1 by omega, show 16 + k - 7 = k + 9 by omega, show 16 + k - 2 = k + 14 by omega]
/-- Bytes of a list, one by one. -/
def at' (l : List Nat) (k : Nat) : Nat := l.getD k 0
/-- All passes over whole 64s. -/
def passes (s : S8) (l : List Nat) : S8 := if _h : 64 ≤ l.length then passes (pass s (at' l)) (l.drop 64) else s
termination_by l.length
decreasing_by simp; omega
theorem passes_short {s : S8} {l : List Nat} (h : l.length < 64) : passes s l = s := by rw [passes, dif_neg (by omega)]
theorem passes_long {s : S8} {l : List Nat} (h : 64 ≤ l.length) : passes s l = passes (pass s (at' l)) (l.drop 64) := by rw [passes, dif_pos h]
theorem word_congr {b b' : Nat → Nat} (h : ∀ k, k < 64 → b k = b' k) {j : Nat} (hj : j < 16) : word b j = word b' j := by
  unfold word; rw [h _ (by omega), h _ (by omega), h _ (by omega), h _ (by omega)]
theorem first_congr {b b' : Nat → Nat} (h : ∀ k, k < 64 → b k = b' k) : first b = first b' :=
  List.map_congr_left fun _ hj => word_congr h (List.mem_range.1 hj)
theorem pass_congr (s : S8) {b b' : Nat → Nat} (h : ∀ k, k < 64 → b k = b' k) : pass s b = pass s b' := by unfold pass sched; rw [first_congr h]
theorem passes_append {l : List Nat} (n : Nat) : ∀ {s : S8} {k : List Nat}, k.length = 64 * n → passes s (k ++ l) = passes (passes s k) l := by
  induction n with
  | zero => intro s k hk; obtain rfl : k = [] := List.eq_nil_of_length_eq_zero (by omega); rw [passes_short (l := []) (by simp)]; rfl
  | succ n ih =>
    intro s k hk
    rw [passes_long (l := k ++ l) (by simp; omega), passes_long (l := k) (by omega), List.drop_append_of_le_length (by omega), ih (by simp; omega),
      pass_congr s fun i hi => ?_]
    unfold at'
    rw [List.getD_eq_getElem?_getD, List.getD_eq_getElem?_getD, List.getElem?_append_left (by omega)]
/-- The seeds. -/
def seeds : S8 := ⟨1779033703, 3144134277, 1013904242, 2773480762, 1359893119, 2600822924, 528734635, 1541459225⟩
theorem seeds_ok : seeds.ok := by unfold S8.ok seeds; decide
theorem passes_ok {l : List Nat} (n : Nat) : ∀ {s : S8}, l.length ≤ n → s.ok → (passes s l).ok := by
  induction n generalizing l with
  | zero => intro s hl h; rw [passes_short (by omega)]; exact h
  | succ n ih =>
    intro s hl h
    by_cases hc : 64 ≤ l.length
    · rw [passes_long hc]; exact ih (by simp; omega) (pass_ok _ _)
    · rw [passes_short (by omega)]; exact h
/-- Eight bytes of a number, the highest first. -/
def count8 (x : Nat) : List Nat := (List.range 8).map fun i => x / 2 ^ (8 * (7 - i)) % 256
/-- How many bytes 0 a tail of n bytes has. -/
def zeros (n : Nat) : Nat := (64 - (n + 9) % 64) % 64
def tail (n : Nat) : List Nat := 128 :: (List.replicate (zeros n) 0 ++ count8 (8 * n))
theorem tail_length (n : Nat) : (tail n).length = 9 + zeros n := by simp [tail, count8]; omega
theorem tail_whole (n : Nat) : (n + (tail n).length) % 64 = 0 := by rw [tail_length]; unfold zeros; omega
/-- A digest's bytes. -/
def digest (s : S8) (j : Nat) : Nat := s.get (j / 4) / 2 ^ (8 * (3 - j % 4)) % 256
theorem digest_lt (s : S8) (j : Nat) : digest s j < 256 := Nat.mod_lt _ (by omega)
/-- The numbers of bytes that go on behind so many whole ones. -/
def ended (s : S8) (size : Nat) (rest : List Nat) : S8 := passes s (rest ++ tail (size + rest.length))
def sum (l : List Nat) : Nat → Nat := digest (ended seeds 0 l)
/-- What stands behind whole blocks may be gone through at once. -/
theorem ended_append {a r : List Nat} {s : S8} {size n : Nat} (ha : a.length = 64 * n) : ended s size (a ++ r) = ended (passes s a) (size + a.length) r := by
  unfold ended
  rw [List.append_assoc, passes_append n ha, List.length_append, Nat.add_assoc]
/-! ### The last block, or the last two -/
/-- What lies there when i of the count's bytes are laid: the bytes l that were left, the mark, and those. -/
def fin (l : List Nat) (size L i j : Nat) : Nat :=
  if j < l.length then l.getD j 0 else if j = l.length then 128 else if L - i ≤ j ∧ j < L then 8 * size / 2 ^ (8 * (L - 1 - j)) % 256 else 0
theorem fin_step (l : List Nat) {size L i c : Nat} (hn : l.length < L - 8) (hi : i < 8) (hc : c + i + 1 = L) :
    (fun j => if j = c then 8 * size / 2 ^ (8 * i) % 256 else fin l size L i j) = fin l size L (i + 1) := funext fun j => by
  unfold fin
  by_cases h : j = c
  · rw [if_pos h, if_neg (by omega), if_neg (by omega), if_pos (by omega), show L - 1 - j = i by omega]
  · rw [if_neg h]
    by_cases h1 : j < l.length
    · rw [if_pos h1, if_pos h1]
    · rw [if_neg h1, if_neg h1]
      by_cases h2 : j = l.length
      · rw [if_pos h2, if_pos h2]
      · rw [if_neg h2, if_neg h2]
        by_cases h3 : L - i ≤ j ∧ j < L
        · rw [if_pos h3, if_pos (by omega)]
        · rw [if_neg h3, if_neg (by omega)]
theorem fin_zero (l : List Nat) (size L : Nat) : (fun j => if j = l.length then 128 else if j < l.length then l.getD j 0 else 0) = fin l size L 0 := funext fun j => by
  unfold fin
  by_cases h : j = l.length
  · rw [if_pos h, if_neg (by omega), if_pos h]
  · rw [if_neg h]
    by_cases h1 : j < l.length
    · rw [if_pos h1, if_pos h1]
    · rw [if_neg h1, if_neg h1, if_neg h, if_neg (by omega)]
theorem count8_get (x : Nat) {i : Nat} (h : i < 8) : (count8 x).getD i 0 = x / 2 ^ (8 * (7 - i)) % 256 := by
  rw [count8, List.getD_eq_getElem?_getD, List.getElem?_map, List.getElem?_range h]; rfl
theorem ended_length {l : List Nat} {size L : Nat} (hs : size % 64 = l.length) (h : L = if l.length + 9 ≤ 64 then 64 else 128) : (l ++ tail size).length = L := by
  rw [List.length_append, tail_length]
  unfold zeros
  split at h <;> omega
theorem ended_get {l : List Nat} {size L : Nat} (hs : size % 64 = l.length) (h : L = if l.length + 9 ≤ 64 then 64 else 128) {j : Nat} (hj : j < L) : (l ++ tail size).getD j 0 = fin l size L 8 j := by
  have hz : l.length + 1 + zeros size = L - 8 := by unfold zeros; split at h <;> omega
  unfold fin
  rw [List.getD_eq_getElem?_getD]
  by_cases h1 : j < l.length
  · rw [if_pos h1, List.getElem?_append_left h1, List.getD_eq_getElem?_getD]
  · rw [if_neg h1, List.getElem?_append_right (by omega)]
    by_cases h2 : j = l.length
    · rw [if_pos h2, h2, Nat.sub_self]; rfl
    · rw [if_neg h2]
      obtain ⟨m, hm⟩ : ∃ m, j = l.length + (m + 1) := ⟨j - l.length - 1, by omega⟩
      rw [show j - l.length = m + 1 by omega, tail, List.getElem?_cons_succ]
      by_cases h3 : m < zeros size
      · rw [List.getElem?_append_left (by simpa using h3), List.getElem?_replicate, if_pos h3, if_neg (by omega)]; rfl
      · rw [List.getElem?_append_right (by simpa using h3), List.length_replicate, if_pos (by omega), ← List.getD_eq_getElem?_getD, count8_get _ (by omega), show 7 - (m - zeros size) = L - 1 - j by omega]
theorem tail_256 (n : Nat) : ∀ x ∈ tail n, x < 256 := by
  intro x hx
  rw [tail, List.mem_cons, List.mem_append] at hx
  rcases hx with rfl | hx | hx
  · decide
  · rw [(List.mem_replicate.1 hx).2]; decide
  · obtain ⟨i, _, rfl⟩ := List.mem_map.1 hx
    exact Nat.mod_lt _ (by omega)
end Go.Proofs.YtmbhibilmedjmaaDoor.ShaM
set_option maxRecDepth 100000
namespace Go.Proofs.YtmbhibilmedjmaaDoor
open Go.ChangeShapes Go.WideShapes Go.ChangeAt Go.RowKit
theorem ret_int {k : IntKind} {a b : Int} (h : a = b) : Ending.returned (.int k a) = .returned (.int k b) := by rw [h]
theorem neg_mask : ∀ n : Nat, n < 32 → 0 < n → bits .and .u64 (IntKind.u64.wrap (-(n : Int))) 31 = ((32 - n : Nat) : Int) := by decide +kernel
theorem rl_any (x n m : Nat) (hx : x < 4294967296) (h0 : 0 < n) (hn : n < 32) (hm : n + m = 32) (w : World) :
    Calls Tryd.prog 85 #[.int .u32 x, .int .i64 (-(n : Int))] w fun e w' => e = .returned (.int .u32 (ShaM.rr x n : Nat)) ∧ w = w' := by
  have H : bits .and .u64 (IntKind.u64.wrap (-(n : Int))) 31 = (m : Int) := by rw [neg_mask n hn h0]; omega
  go_enter Tryd.func85, Tryd.ntmps85
  go_wp2
  go_ret
  refine ⟨ret_int ?_, rfl⟩
  obtain rfl : m = 32 - n := by omega
  have e1 : (x : Int) * 2 ^ (32 - n) % 4294967296 = ((x * 2 ^ (32 - n) % 4294967296 : Nat) : Int) := by simp
  have e2 : (x : Int) / 2 ^ (32 - (32 - n)) = ((x / 2 ^ n : Nat) : Int) := by rw [show 32 - (32 - n) = n by omega]; simp
  rw [e1, e2, u32_or_nat _ _ (Nat.mod_lt _ (by omega)) (Nat.lt_of_le_of_lt (Nat.div_le_self _ _) hx)]
  rfl
theorem rot_any (x n : Nat) (hx : x < 4294967296) (h0 : 0 < n) (hn : n < 32) (w : World) :
    Calls Tryd.prog 83 #[.int .u32 x, .int .i64 n] w fun e w' => e = .returned (.int .u32 (ShaM.rr x n : Nat)) ∧ w = w' := by
  go_enter Tryd.func83, Tryd.ntmps83
  go_wp2_with ((with_reducible refine (rl_any x n (32 - n) hx h0 hn (by omega) _).mono ?_); rintro e w' ⟨rfl, rfl⟩)
  go_ret
  exact ⟨rfl, rfl⟩
end Go.Proofs.YtmbhibilmedjmaaDoor
set_option maxRecDepth 100000
namespace Go.Proofs.YtmbhibilmedjmaaDoor
open Go.ChangeShapes Go.WideShapes Go.ChangeAt Go.RowKit
attribute [local go_sem] Gives
/-- Where a letter stands ahead of step n. -/
def idx (l n : Nat) : Nat := (l + 64 - n) % 8
theorem idx_lt (l n : Nat) : idx l n < 8 := Nat.mod_lt _ (by omega)
theorem idx_lti (l n : Nat) : ((idx l n : Nat) : Int) < 8 := by have := idx_lt l n; omega
theorem at_mask : ∀ n : Nat, n < 64 → ∀ l : Nat, l < 8 → bits .and .i64 ((l : Int) - (n : Int)) 7 = ((idx l n : Nat) : Int) := by decide +kernel
theorem at_any (l n g : Nat) (hl : l < 8) (hn : n < 64) (w : World) (hc : w.cell? ⟨g, 0, none⟩ = some (.int .i64 n)) :
    Calls Tryd.prog 84 #[.int .i64 l, .pointer (some ⟨g, 0, none⟩)] w fun e w' => e = .returned (.int .i64 (idx l n : Nat)) ∧ w = w' := by
  have H := at_mask n hn l hl
  go_enter Tryd.func84, Tryd.ntmps84
  go_wp2
  go_ret
  exact ⟨rfl, rfl⟩
/-- Eight numbers, the letters n places down. -/
def letters (s : ShaM.S8) (n : Nat) : Array Value := row 8 fun j => .int .u32 (s.get ((j + n) % 8) : Nat)
theorem letters_at (s : ShaM.S8) {l n : Nat} (hl : l < 8) (hn : n ≤ 64) : (letters s n)[idx l n]? = some (.int .u32 (s.get l : Nat)) := by
  unfold letters
  rw [get_row_lt (idx_lt l n)]
  unfold idx
  rw [show ((l + 64 - n) % 8 + n) % 8 = l by omega]
theorem letters_set (s : ShaM.S8) {n u v : Nat} (hn : n < 64) :
    ((letters s n).setIfInBounds (idx 3 n) (.int .u32 (v : Nat))).setIfInBounds (idx 7 n) (.int .u32 (u : Nat)) = letters ⟨u, s.a, s.b, s.c, v, s.e, s.f, s.g⟩ (n + 1) := by
  unfold letters
  rw [row_set, row_set]
  refine row_ext fun j hj => ?_
  have e : ∀ l, l < 8 → (j = idx l n ↔ (j + n) % 8 = l) := fun l hl => by unfold idx; omega
  simp only [e 7 (by omega), e 3 (by omega)]
  have hl : (j + n) % 8 < 8 := Nat.mod_lt _ (by omega)
  have e1 : (j + (n + 1)) % 8 = ((j + n) % 8 + 1) % 8 := by omega
  rw [e1]
  generalize (j + n) % 8 = l at *
  match l, hl with
  | 0, _ | 1, _ | 2, _ | 3, _ | 4, _ | 5, _ | 6, _ | 7, _ => rfl
theorem letters_step (s : ShaM.S8) {n x : Nat} (hn : n < 64) :
    ((letters s n).setIfInBounds (idx 3 n) (.int .u32 (ShaM.add s.d (ShaM.pOf s x) : Nat))).setIfInBounds (idx 7 n) (.int .u32 (ShaM.add (ShaM.pOf s x) (ShaM.qOf s) : Nat)) = letters (ShaM.step s x) (n + 1) := letters_set s hn
theorem u32_wrap_nat (a b : Nat) : IntKind.u32.wrap ((a : Int) + (b : Int)) = ((ShaM.add a b : Nat) : Int) := by
  rw [IntKind.wrap_u32']
  unfold ShaM.add
  omega
theorem not_nat (a : Nat) (ha : a < 4294967296) : bits .xor .u32 4294967295 (a : Int) = ((ShaM.not32 a : Nat) : Int) := by
  rw [show (4294967295 : Int) = ((4294967295 : Nat) : Int) from rfl, u32_xor_nat _ _ (by omega) ha]
  unfold ShaM.not32
  have h : (4294967295 ^^^ a) = 4294967295 - a := by
    have := congrArg BitVec.toNat (BitVec.allOnes_xor (x := BitVec.ofNat 32 a))
    rw [BitVec.toNat_xor, BitVec.toNat_allOnes, BitVec.toNat_not, BitVec.toNat_ofNat, Nat.mod_eq_of_lt (by omega)] at this
    exact this
  rw [h]
theorem q_nat (s : ShaM.S8) (hs : s.ok) : (bits .xor .u32 (bits .xor .u32 ((ShaM.rr (s.get 0) 2 : Nat) : Int) ((ShaM.rr (s.get 0) 13 : Nat) : Int)) ((ShaM.rr (s.get 0) 22 : Nat) : Int) +
    bits .xor .u32 (bits .xor .u32 (bits .and .u32 ((s.get 0 : Nat) : Int) ((s.get 1 : Nat) : Int)) (bits .and .u32 ((s.get 0 : Nat) : Int) ((s.get 2 : Nat) : Int))) (bits .and .u32 ((s.get 1 : Nat) : Int) ((s.get 2 : Nat) : Int))) % 4294967296 = ((ShaM.qOf s : Nat) : Int) := by
  have h0 := ShaM.S8.get_lt hs 0
  have h1 := ShaM.S8.get_lt hs 1
  have h2 := ShaM.S8.get_lt hs 2
  have ha : ∀ a b : Nat, a < 4294967296 → (a &&& b) < 4294967296 := fun a b h => Nat.lt_of_le_of_lt Nat.and_le_left h
  have hr := fun n => ShaM.rr_lt h0 n
  rw [u32_and_nat _ _ h0 h1, u32_and_nat _ _ h0 h2, u32_and_nat _ _ h1 h2, u32_xor_nat _ _ (ha _ _ h0) (ha _ _ h0), u32_xor_nat _ _ (Nat.xor_lt_two_pow (n := 32) (ha _ _ h0) (ha _ _ h0)) (ha _ _ h1),
    u32_xor_nat _ _ (hr 2) (hr 13), u32_xor_nat _ _ (Nat.xor_lt_two_pow (n := 32) (hr 2) (hr 13)) (hr 22), ← IntKind.wrap_u32', u32_wrap_nat]
  rfl
theorem p_nat (s : ShaM.S8) (hs : s.ok) (x : Nat) : IntKind.u32.wrap (IntKind.u32.wrap (IntKind.u32.wrap (((s.get 7 : Nat) : Int) +
    bits .xor .u32 (bits .xor .u32 ((ShaM.rr (s.get 4) 6 : Nat) : Int) ((ShaM.rr (s.get 4) 11 : Nat) : Int)) ((ShaM.rr (s.get 4) 25 : Nat) : Int)) +
    bits .xor .u32 (bits .and .u32 ((s.get 4 : Nat) : Int) ((s.get 5 : Nat) : Int)) (bits .and .u32 (bits .xor .u32 (if IntKind.u32.signed = true then -1 else IntKind.u32.max) ((s.get 4 : Nat) : Int)) ((s.get 6 : Nat) : Int))) + (x : Int)) = ((ShaM.pOf s x : Nat) : Int) := by
  have h4 := ShaM.S8.get_lt hs 4
  have h5 := ShaM.S8.get_lt hs 5
  have h6 := ShaM.S8.get_lt hs 6
  have hn : ShaM.not32 (s.get 4) < 4294967296 := by unfold ShaM.not32; omega
  have ha : ∀ a b : Nat, a < 4294967296 → (a &&& b) < 4294967296 := fun a b h => Nat.lt_of_le_of_lt Nat.and_le_left h
  have hr := fun n => ShaM.rr_lt h4 n
  rw [show (if IntKind.u32.signed = true then (-1 : Int) else IntKind.u32.max) = 4294967295 from rfl, not_nat _ h4, u32_and_nat _ _ h4 h5, u32_and_nat _ _ hn h6, u32_xor_nat _ _ (ha _ _ h4) (ha _ _ hn),
    u32_xor_nat _ _ (hr 6) (hr 11), u32_xor_nat _ _ (Nat.xor_lt_two_pow (n := 32) (hr 6) (hr 11)) (hr 25), u32_wrap_nat, u32_wrap_nat, u32_wrap_nat]
  rfl
end Go.Proofs.YtmbhibilmedjmaaDoor
set_option maxRecDepth 100000
namespace Go.Proofs.YtmbhibilmedjmaaDoor
open Go.ChangeShapes Go.WideShapes Go.ChangeAt Go.RowKit
attribute [local go_sem] Gives
set_option maxHeartbeats 4000000 in
set_option maxRecDepth 100000 in
theorem step_any (s : ShaM.S8) (hs : s.ok) (g t n x : Nat) (hn : n < 64) (_hx : x < 4294967296) (w : World) (hb : Blk w g t (letters s n)) :
    Calls Tryd.prog 82 #[.pointer (some ⟨g, 0, none⟩), .int .i64 n, .int .u32 x] w fun e w' => e = .returned (.tuple #[]) ∧ Blk w' g t (letters (ShaM.step s x) (n + 1)) ∧ w.grownBy w' (some g) := by
  have hsz := hb.lt
  go_enter Tryd.func82, Tryd.ntmps82
  go_wp2_with fail
  generalize hw3 : World.alloc w _ = w3
  have b0 : Blk w3 g t (letters s n) := by rw [← hw3]; exact hb.alloc _
  have c0 : w3.cell? ⟨w.heap.size, 0, none⟩ = some (.int .i64 n) := by rw [← hw3]; exact (Blk.new w _ _).cell 0
  have bel : Below w.heap.size w w3 := by rw [← hw3]; exact (Below.refl _ _).alloc (Nat.le_refl _) _
  clear hw3
  have cl : ∀ l, l < 8 → w3.cell? ⟨g, idx l n, none⟩ = some (.int .u32 (s.get l : Nat)) := fun l hl => (b0.cell _).trans (letters_at s hl (by omega))
  have CL := hid cl
  have C0 := hid c0
  clear cl c0
  have B0 := hid b0
  have BEL := hid bel
  have HS := hid hs
  clear b0 bel hs
  refine wp_region_tail (C := Drew w3) 21 (by kernel_rfl) (by kernel_rfl) (by kernel_rfl) (Drew.refl _) ?_
  simp only [List.take_succ_cons, List.take_zero, List.drop_succ_cons, List.drop_zero]
  apply wpK_val
  · rfl
  · intro w' hw'
    go_simp
    first | exact rfl | exact ⟨rfl, hw'⟩
  simp only [Act.put, List.setIfInBounds_toArray, List.set_cons_succ, List.set_cons_zero]
  apply wpK_val
  · rfl
  · intro w' hw'
    go_simp
    first | exact rfl | exact ⟨rfl, hw'⟩
  simp only [Act.put, List.setIfInBounds_toArray, List.set_cons_succ, List.set_cons_zero]
  apply wpK_val
  · rfl
  · intro w' hw'
    go_simp
    exact (at_any 0 n _ (by omega) hn _ (hw'.cell C0.out)).mono fun e w'' ⟨he, hb'⟩ => ⟨he, by subst hb'; exact hw'⟩
  simp only [Act.put, List.setIfInBounds_toArray, List.set_cons_succ, List.set_cons_zero]
  apply wpK_val
  · rfl
  · intro w' hw'
    go_simp
    first | exact rfl | exact ⟨rfl, hw'⟩
  simp only [Act.put, List.setIfInBounds_toArray, List.set_cons_succ, List.set_cons_zero]
  apply wpK_val
  · rfl
  · intro w' hw'
    have i : ((idx 0 n : Nat) : Int) < 8 := idx_lti 0 n
    go_simp
    first | exact rfl | exact ⟨rfl, hw'⟩
  simp only [Act.put, List.setIfInBounds_toArray, List.set_cons_succ, List.set_cons_zero]
  apply wpK_val
  · rfl
  · intro w' hw'
    have hcell := hw'.cell (CL.out 0 (by omega))
    go_simp
    first | exact rfl | exact ⟨rfl, hw'⟩
  simp only [Act.put, List.setIfInBounds_toArray, List.set_cons_succ, List.set_cons_zero]
  apply wpK_val
  · rfl
  · intro w' hw'
    go_simp
    first | exact rfl | exact ⟨rfl, hw'⟩
  simp only [Act.put, List.setIfInBounds_toArray, List.set_cons_succ, List.set_cons_zero]
  apply wpK_val
  · rfl
  · intro w' hw'
    go_simp
    first | exact rfl | exact ⟨rfl, hw'⟩
  simp only [Act.put, List.setIfInBounds_toArray, List.set_cons_succ, List.set_cons_zero]
  apply wpK_val
  · rfl
  · intro w' hw'
    go_simp
    exact (at_any 1 n _ (by omega) hn _ (hw'.cell C0.out)).mono fun e w'' ⟨he, hb'⟩ => ⟨he, by subst hb'; exact hw'⟩
  simp only [Act.put, List.setIfInBounds_toArray, List.set_cons_succ, List.set_cons_zero]
  apply wpK_val
  · rfl
  · intro w' hw'
    go_simp
    first | exact rfl | exact ⟨rfl, hw'⟩
  simp only [Act.put, List.setIfInBounds_toArray, List.set_cons_succ, List.set_cons_zero]
  apply wpK_val
  · rfl
  · intro w' hw'
    have i : ((idx 1 n : Nat) : Int) < 8 := idx_lti 1 n
    go_simp
    first | exact rfl | exact ⟨rfl, hw'⟩
  simp only [Act.put, List.setIfInBounds_toArray, List.set_cons_succ, List.set_cons_zero]
  apply wpK_val
  · rfl
  · intro w' hw'
    have hcell := hw'.cell (CL.out 1 (by omega))
    go_simp
    first | exact rfl | exact ⟨rfl, hw'⟩
  simp only [Act.put, List.setIfInBounds_toArray, List.set_cons_succ, List.set_cons_zero]
  apply wpK_val
  · rfl
  · intro w' hw'
    go_simp
    first | exact rfl | exact ⟨rfl, hw'⟩
  simp only [Act.put, List.setIfInBounds_toArray, List.set_cons_succ, List.set_cons_zero]
  apply wpK_val
  · rfl
  · intro w' hw'
    go_simp
    first | exact rfl | exact ⟨rfl, hw'⟩
  simp only [Act.put, List.setIfInBounds_toArray, List.set_cons_succ, List.set_cons_zero]
  apply wpK_val
  · rfl
  · intro w' hw'
    go_simp
    exact (at_any 2 n _ (by omega) hn _ (hw'.cell C0.out)).mono fun e w'' ⟨he, hb'⟩ => ⟨he, by subst hb'; exact hw'⟩
  simp only [Act.put, List.setIfInBounds_toArray, List.set_cons_succ, List.set_cons_zero]
  apply wpK_val
  · rfl
  · intro w' hw'
    go_simp
    first | exact rfl | exact ⟨rfl, hw'⟩
  simp only [Act.put, List.setIfInBounds_toArray, List.set_cons_succ, List.set_cons_zero]
  apply wpK_val
  · rfl
  · intro w' hw'
    have i : ((idx 2 n : Nat) : Int) < 8 := idx_lti 2 n
    go_simp
    first | exact rfl | exact ⟨rfl, hw'⟩
  simp only [Act.put, List.setIfInBounds_toArray, List.set_cons_succ, List.set_cons_zero]
  apply wpK_val
  · rfl
  · intro w' hw'
    have hcell := hw'.cell (CL.out 2 (by omega))
    go_simp
    first | exact rfl | exact ⟨rfl, hw'⟩
  simp only [Act.put, List.setIfInBounds_toArray, List.set_cons_succ, List.set_cons_zero]
  apply wpK_val
  · rfl
  · intro w' hw'
    go_simp
    first | exact rfl | exact ⟨rfl, hw'⟩
  simp only [Act.put, List.setIfInBounds_toArray, List.set_cons_succ, List.set_cons_zero]
  apply wpK_val
  · rfl
  · intro w' hw'
    go_simp
    first | exact rfl | exact ⟨rfl, hw'⟩
  simp only [Act.put, List.setIfInBounds_toArray, List.set_cons_succ, List.set_cons_zero]
  apply wpK_val
  · rfl
  · intro w' hw'
    go_simp
    first | exact rfl | exact ⟨rfl, hw'⟩
  simp only [Act.put, List.setIfInBounds_toArray, List.set_cons_succ, List.set_cons_zero]
  refine wpK_nil fun w4 hw4 => ?_
  have b0 := hw4.blk B0.out
  have bel := hw4.below BEL.out
  have c0 := hw4.cell C0.out
  have cl : ∀ l, l < 8 → w4.cell? ⟨g, idx l n, none⟩ = some (.int .u32 (s.get l : Nat)) := fun l hl => (b0.cell _).trans (letters_at s hl (by omega))
  clear hw4 B0 BEL C0 CL w3
  have B0 := hid b0
  have BEL := hid bel
  have CL := hid cl
  have C0 := hid c0
  clear cl c0 b0 bel
  go_wp2_with fail
  refine wp_region_tail (C := Drew w4) 21 (by kernel_rfl) (by kernel_rfl) (by kernel_rfl) (Drew.refl _) ?_
  simp only [List.take_succ_cons, List.take_zero, List.drop_succ_cons, List.drop_zero]
  apply wpK_val
  · rfl
  · intro w' hw'
    go_simp
    first | exact rfl | exact ⟨rfl, hw'⟩
  simp only [Act.put, List.setIfInBounds_toArray, List.set_cons_succ, List.set_cons_zero]
  apply wpK_val
  · rfl
  · intro w' hw'
    go_simp
    first | exact rfl | exact ⟨rfl, hw'⟩
  simp only [Act.put, List.setIfInBounds_toArray, List.set_cons_succ, List.set_cons_zero]
  apply wpK_val
  · rfl
  · intro w' hw'
    go_simp
    exact (at_any 4 n _ (by omega) hn _ (hw'.cell C0.out)).mono fun e w'' ⟨he, hb'⟩ => ⟨he, by subst hb'; exact hw'⟩
  simp only [Act.put, List.setIfInBounds_toArray, List.set_cons_succ, List.set_cons_zero]
  apply wpK_val
  · rfl
  · intro w' hw'
    go_simp
    first | exact rfl | exact ⟨rfl, hw'⟩
  simp only [Act.put, List.setIfInBounds_toArray, List.set_cons_succ, List.set_cons_zero]
  apply wpK_val
  · rfl
  · intro w' hw'
    have i : ((idx 4 n : Nat) : Int) < 8 := idx_lti 4 n
    go_simp
    first | exact rfl | exact ⟨rfl, hw'⟩
  simp only [Act.put, List.setIfInBounds_toArray, List.set_cons_succ, List.set_cons_zero]
  apply wpK_val
  · rfl
  · intro w' hw'
    have hcell := hw'.cell (CL.out 4 (by omega))
    go_simp
    first | exact rfl | exact ⟨rfl, hw'⟩
  simp only [Act.put, List.setIfInBounds_toArray, List.set_cons_succ, List.set_cons_zero]
  apply wpK_val
  · rfl
  · intro w' hw'
    go_simp
    first | exact rfl | exact ⟨rfl, hw'⟩
  simp only [Act.put, List.setIfInBounds_toArray, List.set_cons_succ, List.set_cons_zero]
  apply wpK_val
  · rfl
  · intro w' hw'
    go_simp
    first | exact rfl | exact ⟨rfl, hw'⟩
  simp only [Act.put, List.setIfInBounds_toArray, List.set_cons_succ, List.set_cons_zero]
  apply wpK_val
  · rfl
  · intro w' hw'
    go_simp
    exact (at_any 5 n _ (by omega) hn _ (hw'.cell C0.out)).mono fun e w'' ⟨he, hb'⟩ => ⟨he, by subst hb'; exact hw'⟩
  simp only [Act.put, List.setIfInBounds_toArray, List.set_cons_succ, List.set_cons_zero]
  apply wpK_val
  · rfl
  · intro w' hw'
    go_simp
    first | exact rfl | exact ⟨rfl, hw'⟩
  simp only [Act.put, List.setIfInBounds_toArray, List.set_cons_succ, List.set_cons_zero]
  apply wpK_val
  · rfl
  · intro w' hw'
    have i : ((idx 5 n : Nat) : Int) < 8 := idx_lti 5 n
    go_simp
    first | exact rfl | exact ⟨rfl, hw'⟩
  simp only [Act.put, List.setIfInBounds_toArray, List.set_cons_succ, List.set_cons_zero]
  apply wpK_val
  · rfl
  · intro w' hw'
    have hcell := hw'.cell (CL.out 5 (by omega))
    go_simp
    first | exact rfl | exact ⟨rfl, hw'⟩
  simp only [Act.put, List.setIfInBounds_toArray, List.set_cons_succ, List.set_cons_zero]
  apply wpK_val
  · rfl
  · intro w' hw'
    go_simp
    first | exact rfl | exact ⟨rfl, hw'⟩
  simp only [Act.put, List.setIfInBounds_toArray, List.set_cons_succ, List.set_cons_zero]
  apply wpK_val
  · rfl
  · intro w' hw'
    go_simp
    first | exact rfl | exact ⟨rfl, hw'⟩
  simp only [Act.put, List.setIfInBounds_toArray, List.set_cons_succ, List.set_cons_zero]
  apply wpK_val
  · rfl
  · intro w' hw'
    go_simp
    exact (at_any 6 n _ (by omega) hn _ (hw'.cell C0.out)).mono fun e w'' ⟨he, hb'⟩ => ⟨he, by subst hb'; exact hw'⟩
  simp only [Act.put, List.setIfInBounds_toArray, List.set_cons_succ, List.set_cons_zero]
  apply wpK_val
  · rfl
  · intro w' hw'
    go_simp
    first | exact rfl | exact ⟨rfl, hw'⟩
  simp only [Act.put, List.setIfInBounds_toArray, List.set_cons_succ, List.set_cons_zero]
  apply wpK_val
  · rfl
  · intro w' hw'
    have i : ((idx 6 n : Nat) : Int) < 8 := idx_lti 6 n
    go_simp
    first | exact rfl | exact ⟨rfl, hw'⟩
  simp only [Act.put, List.setIfInBounds_toArray, List.set_cons_succ, List.set_cons_zero]
  apply wpK_val
  · rfl
  · intro w' hw'
    have hcell := hw'.cell (CL.out 6 (by omega))
    go_simp
    first | exact rfl | exact ⟨rfl, hw'⟩
  simp only [Act.put, List.setIfInBounds_toArray, List.set_cons_succ, List.set_cons_zero]
  apply wpK_val
  · rfl
  · intro w' hw'
    go_simp
    first | exact rfl | exact ⟨rfl, hw'⟩
  simp only [Act.put, List.setIfInBounds_toArray, List.set_cons_succ, List.set_cons_zero]
  apply wpK_val
  · rfl
  · intro w' hw'
    go_simp
    first | exact rfl | exact ⟨rfl, hw'⟩
  simp only [Act.put, List.setIfInBounds_toArray, List.set_cons_succ, List.set_cons_zero]
  apply wpK_val
  · rfl
  · intro w' hw'
    go_simp
    first | exact rfl | exact ⟨rfl, hw'⟩
  simp only [Act.put, List.setIfInBounds_toArray, List.set_cons_succ, List.set_cons_zero]
  refine wpK_nil fun w3 hw3 => ?_
  have b0 := hw3.blk B0.out
  have bel := hw3.below BEL.out
  have c0 := hw3.cell C0.out
  have cl : ∀ l, l < 8 → w3.cell? ⟨g, idx l n, none⟩ = some (.int .u32 (s.get l : Nat)) := fun l hl => (b0.cell _).trans (letters_at s hl (by omega))
  clear hw3 B0 BEL C0 CL w4
  have B0 := hid b0
  have BEL := hid bel
  have CL := hid cl
  have C0 := hid c0
  clear cl c0 b0 bel
  go_wp2_with fail
  refine wp_region_tail (C := Drew w3) 27 (by kernel_rfl) (by kernel_rfl) (by kernel_rfl) (Drew.refl _) ?_
  simp only [List.take_succ_cons, List.take_zero, List.drop_succ_cons, List.drop_zero]
  apply wpK_val
  · rfl
  · intro w' hw'
    go_simp
    first | exact rfl | exact ⟨rfl, hw'⟩
  simp only [Act.put, List.setIfInBounds_toArray, List.set_cons_succ, List.set_cons_zero]
  apply wpK_val
  · rfl
  · intro w' hw'
    go_simp
    first | exact rfl | exact ⟨rfl, hw'⟩
  simp only [Act.put, List.setIfInBounds_toArray, List.set_cons_succ, List.set_cons_zero]
  apply wpK_val
  · rfl
  · intro w' hw'
    go_simp
    exact (at_any 7 n _ (by omega) hn _ (hw'.cell C0.out)).mono fun e w'' ⟨he, hb'⟩ => ⟨he, by subst hb'; exact hw'⟩
  simp only [Act.put, List.setIfInBounds_toArray, List.set_cons_succ, List.set_cons_zero]
  apply wpK_val
  · rfl
  · intro w' hw'
    go_simp
    first | exact rfl | exact ⟨rfl, hw'⟩
  simp only [Act.put, List.setIfInBounds_toArray, List.set_cons_succ, List.set_cons_zero]
  apply wpK_val
  · rfl
  · intro w' hw'
    have i : ((idx 7 n : Nat) : Int) < 8 := idx_lti 7 n
    go_simp
    first | exact rfl | exact ⟨rfl, hw'⟩
  simp only [Act.put, List.setIfInBounds_toArray, List.set_cons_succ, List.set_cons_zero]
  apply wpK_val
  · rfl
  · intro w' hw'
    have hcell := hw'.cell (CL.out 7 (by omega))
    go_simp
    first | exact rfl | exact ⟨rfl, hw'⟩
  simp only [Act.put, List.setIfInBounds_toArray, List.set_cons_succ, List.set_cons_zero]
  apply wpK_val
  · rfl
  · intro w' hw'
    go_simp
    first | exact rfl | exact ⟨rfl, hw'⟩
  simp only [Act.put, List.setIfInBounds_toArray, List.set_cons_succ, List.set_cons_zero]
  apply wpK_val
  · rfl
  · intro w' hw'
    go_simp
    exact (rot_any _ 6 (ShaM.S8.get_lt HS.out 4) (by omega) (by omega) _).mono fun e w'' ⟨he, hb'⟩ => ⟨he, by subst hb'; exact hw'⟩
  simp only [Act.put, List.setIfInBounds_toArray, List.set_cons_succ, List.set_cons_zero]
  apply wpK_val
  · rfl
  · intro w' hw'
    go_simp
    first | exact rfl | exact ⟨rfl, hw'⟩
  simp only [Act.put, List.setIfInBounds_toArray, List.set_cons_succ, List.set_cons_zero]
  apply wpK_val
  · rfl
  · intro w' hw'
    go_simp
    exact (rot_any _ 11 (ShaM.S8.get_lt HS.out 4) (by omega) (by omega) _).mono fun e w'' ⟨he, hb'⟩ => ⟨he, by subst hb'; exact hw'⟩
  simp only [Act.put, List.setIfInBounds_toArray, List.set_cons_succ, List.set_cons_zero]
  apply wpK_val
  · rfl
  · intro w' hw'
    go_simp
    first | exact rfl | exact ⟨rfl, hw'⟩
  simp only [Act.put, List.setIfInBounds_toArray, List.set_cons_succ, List.set_cons_zero]
  apply wpK_val
  · rfl
  · intro w' hw'
    go_simp
    first | exact rfl | exact ⟨rfl, hw'⟩
  simp only [Act.put, List.setIfInBounds_toArray, List.set_cons_succ, List.set_cons_zero]
  apply wpK_val
  · rfl
  · intro w' hw'
    go_simp
    exact (rot_any _ 25 (ShaM.S8.get_lt HS.out 4) (by omega) (by omega) _).mono fun e w'' ⟨he, hb'⟩ => ⟨he, by subst hb'; exact hw'⟩
  simp only [Act.put, List.setIfInBounds_toArray, List.set_cons_succ, List.set_cons_zero]
  apply wpK_val
  · rfl
  · intro w' hw'
    go_simp
    first | exact rfl | exact ⟨rfl, hw'⟩
  simp only [Act.put, List.setIfInBounds_toArray, List.set_cons_succ, List.set_cons_zero]
  apply wpK_val
  · rfl
  · intro w' hw'
    go_simp
    first | exact rfl | exact ⟨rfl, hw'⟩
  simp only [Act.put, List.setIfInBounds_toArray, List.set_cons_succ, List.set_cons_zero]
  apply wpK_val
  · rfl
  · intro w' hw'
    go_simp
    first | exact rfl | exact ⟨rfl, hw'⟩
  simp only [Act.put, List.setIfInBounds_toArray, List.set_cons_succ, List.set_cons_zero]
  apply wpK_val
  · rfl
  · intro w' hw'
    go_simp
    first | exact rfl | exact ⟨rfl, hw'⟩
  simp only [Act.put, List.setIfInBounds_toArray, List.set_cons_succ, List.set_cons_zero]
  apply wpK_val
  · rfl
  · intro w' hw'
    go_simp
    first | exact rfl | exact ⟨rfl, hw'⟩
  simp only [Act.put, List.setIfInBounds_toArray, List.set_cons_succ, List.set_cons_zero]
  apply wpK_val
  · rfl
  · intro w' hw'
    go_simp
    first | exact rfl | exact ⟨rfl, hw'⟩
  simp only [Act.put, List.setIfInBounds_toArray, List.set_cons_succ, List.set_cons_zero]
  apply wpK_val
  · rfl
  · intro w' hw'
    go_simp
    first | exact rfl | exact ⟨rfl, hw'⟩
  simp only [Act.put, List.setIfInBounds_toArray, List.set_cons_succ, List.set_cons_zero]
  apply wpK_val
  · rfl
  · intro w' hw'
    go_simp
    first | exact rfl | exact ⟨rfl, hw'⟩
  simp only [Act.put, List.setIfInBounds_toArray, List.set_cons_succ, List.set_cons_zero]
  apply wpK_val
  · rfl
  · intro w' hw'
    go_simp
    first | exact rfl | exact ⟨rfl, hw'⟩
  simp only [Act.put, List.setIfInBounds_toArray, List.set_cons_succ, List.set_cons_zero]
  apply wpK_val
  · rfl
  · intro w' hw'
    go_simp
    first | exact rfl | exact ⟨rfl, hw'⟩
  simp only [Act.put, List.setIfInBounds_toArray, List.set_cons_succ, List.set_cons_zero]
  apply wpK_val
  · rfl
  · intro w' hw'
    go_simp
    first | exact rfl | exact ⟨rfl, hw'⟩
  simp only [Act.put, List.setIfInBounds_toArray, List.set_cons_succ, List.set_cons_zero]
  apply wpK_val
  · rfl
  · intro w' hw'
    go_simp
    first | exact rfl | exact ⟨rfl, hw'⟩
  simp only [Act.put, List.setIfInBounds_toArray, List.set_cons_succ, List.set_cons_zero]
  apply wpK_val
  · rfl
  · intro w' hw'
    have hp : _ := p_nat s HS.out x
    go_simp
    first | exact rfl | exact ⟨rfl, hw'⟩
  simp only [Act.put, List.setIfInBounds_toArray, List.set_cons_succ, List.set_cons_zero]
  apply wpK_val
  · rfl
  · intro w' hw'
    go_simp
    first | exact rfl | exact ⟨rfl, hw'⟩
  simp only [Act.put, List.setIfInBounds_toArray, List.set_cons_succ, List.set_cons_zero]
  refine wpK_nil fun w4 hw4 => ?_
  have b0 := hw4.blk B0.out
  have bel := hw4.below BEL.out
  have c0 := hw4.cell C0.out
  clear hw4 B0 BEL C0 CL w3
  have B0 := hid b0
  have BEL := hid bel
  have C0 := hid c0
  clear c0 b0 bel
  generalize hP : ShaM.pOf s x = p
  have HP := hid hP
  clear hP
  go_wp2_with fail
  refine (rot_any _ 2 (ShaM.S8.get_lt HS.out 0) (by omega) (by omega) _).mono ?_
  rintro e w' ⟨rfl, rfl⟩
  go_wp2_with fail
  refine (rot_any _ 13 (ShaM.S8.get_lt HS.out 0) (by omega) (by omega) _).mono ?_
  rintro e w' ⟨rfl, rfl⟩
  go_wp2_with fail
  refine (rot_any _ 22 (ShaM.S8.get_lt HS.out 0) (by omega) (by omega) _).mono ?_
  rintro e w' ⟨rfl, rfl⟩
  go_wp2_with fail
  rw [q_nat s HS.out]
  generalize hQ : ShaM.qOf s = q
  have HQ := hid hQ
  clear hQ
  have i3 : ((idx 3 n : Nat) : Int) < 8 := idx_lti 3 n
  have i7 : ((idx 7 n : Nat) : Int) < 8 := idx_lti 7 n
  have n3 := idx_lt 3 n
  have n7 := idx_lt 7 n
  refine wp_region_tail (C := Drew w4) 10 (by kernel_rfl) (by kernel_rfl) (by kernel_rfl) (Drew.refl _) ?_
  simp only [List.take_succ_cons, List.take_zero, List.drop_succ_cons, List.drop_zero]
  apply wpK_val
  · rfl
  · intro w' hw'
    go_simp
    first | exact rfl | exact ⟨rfl, hw'⟩
  simp only [Act.put, List.setIfInBounds_toArray, List.set_cons_succ, List.set_cons_zero]
  apply wpK_val
  · rfl
  · intro w' hw'
    go_simp
    first | exact rfl | exact ⟨rfl, hw'⟩
  simp only [Act.put, List.setIfInBounds_toArray, List.set_cons_succ, List.set_cons_zero]
  apply wpK_val
  · rfl
  · intro w' hw'
    go_simp
    exact (at_any 3 n _ (by omega) hn _ (hw'.cell C0.out)).mono fun e w'' ⟨he, hb'⟩ => ⟨he, by subst hb'; exact hw'⟩
  simp only [Act.put, List.setIfInBounds_toArray, List.set_cons_succ, List.set_cons_zero]
  apply wpK_val
  · rfl
  · intro w' hw'
    go_simp
    first | exact rfl | exact ⟨rfl, hw'⟩
  simp only [Act.put, List.setIfInBounds_toArray, List.set_cons_succ, List.set_cons_zero]
  apply wpK_val
  · rfl
  · intro w' hw'
    go_simp
    first | exact rfl | exact ⟨rfl, hw'⟩
  simp only [Act.put, List.setIfInBounds_toArray, List.set_cons_succ, List.set_cons_zero]
  apply wpK_val
  · rfl
  · intro w' hw'
    have hcell := hw'.cell ((B0.out.cell _).trans (letters_at s (l := 3) (by omega) (by omega)))
    go_simp
    first | exact rfl | exact ⟨rfl, hw'⟩
  simp only [Act.put, List.setIfInBounds_toArray, List.set_cons_succ, List.set_cons_zero]
  apply wpK_val
  · rfl
  · intro w' hw'
    go_simp
    first | exact rfl | exact ⟨rfl, hw'⟩
  simp only [Act.put, List.setIfInBounds_toArray, List.set_cons_succ, List.set_cons_zero]
  apply wpK_val
  · rfl
  · intro w' hw'
    have ha : _ := u32_wrap_nat (s.get 3) p
    go_simp
    first | exact rfl | exact ⟨rfl, hw'⟩
  simp only [Act.put, List.setIfInBounds_toArray, List.set_cons_succ, List.set_cons_zero]
  apply wpK_val
  · rfl
  · intro w' hw'
    go_simp
    first | exact rfl | exact ⟨rfl, hw'⟩
  simp only [Act.put, List.setIfInBounds_toArray, List.set_cons_succ, List.set_cons_zero]
  apply wpK_val
  · rfl
  · intro w' hw'
    go_simp
    first | exact rfl | exact ⟨rfl, hw'⟩
  simp only [Act.put, List.setIfInBounds_toArray, List.set_cons_succ, List.set_cons_zero]
  refine wpK_nil fun w3 hw3 => ?_
  have b0 := hw3.blk B0.out
  have bel := hw3.below BEL.out
  have c0 := hw3.cell C0.out
  clear hw3 B0 BEL C0 w4
  have c1 := (b0.cell _).trans (letters_at s (l := 3) (by omega) (Nat.le_of_lt hn))
  have c3 := b0.frozen (idx 3 n)
  have B0 := hid b0
  have BEL := hid bel
  have C0 := hid c0
  clear b0 bel c0
  go_wp2_with fail
  have b1 := (B0.out.setCell_same (idx 3 n) (.int .u32 (ShaM.add (s.get 3) p : Nat)))
  have on := only_cell (only_of_below (g := g) BEL.out (Nat.le_refl _)) (idx 3 n) (.int .u32 (ShaM.add (s.get 3) p : Nat))
  have c0 : (w3.setCell ⟨g, idx 3 n, none⟩ (.int .u32 (ShaM.add (s.get 3) p : Nat))).cell? ⟨w.heap.size, 0, none⟩ = some (.int .i64 n) := by
    rw [← C0.out]; exact cell_other (by show w.heap.size ≠ g; omega)
  generalize w3.setCell ⟨g, idx 3 n, none⟩ (.int .u32 (ShaM.add (s.get 3) p : Nat)) = w4 at *
  clear B0 BEL C0 c1 c3
  have B0 := hid b1
  have C0 := hid c0
  have ON := hid on
  clear b1 c0 on w3
  refine wp_region_tail (C := Drew w4) 8 (by kernel_rfl) (by kernel_rfl) (by kernel_rfl) (Drew.refl _) ?_
  simp only [List.take_succ_cons, List.take_zero, List.drop_succ_cons, List.drop_zero]
  apply wpK_val
  · rfl
  · intro w' hw'
    go_simp
    first | exact rfl | exact ⟨rfl, hw'⟩
  simp only [Act.put, List.setIfInBounds_toArray, List.set_cons_succ, List.set_cons_zero]
  apply wpK_val
  · rfl
  · intro w' hw'
    go_simp
    first | exact rfl | exact ⟨rfl, hw'⟩
  simp only [Act.put, List.setIfInBounds_toArray, List.set_cons_succ, List.set_cons_zero]
  apply wpK_val
  · rfl
  · intro w' hw'
    go_simp
    exact (at_any 7 n _ (by omega) hn _ (hw'.cell C0.out)).mono fun e w'' ⟨he, hb'⟩ => ⟨he, by subst hb'; exact hw'⟩
  simp only [Act.put, List.setIfInBounds_toArray, List.set_cons_succ, List.set_cons_zero]
  apply wpK_val
  · rfl
  · intro w' hw'
    go_simp
    first | exact rfl | exact ⟨rfl, hw'⟩
  simp only [Act.put, List.setIfInBounds_toArray, List.set_cons_succ, List.set_cons_zero]
  apply wpK_val
  · rfl
  · intro w' hw'
    go_simp
    first | exact rfl | exact ⟨rfl, hw'⟩
  simp only [Act.put, List.setIfInBounds_toArray, List.set_cons_succ, List.set_cons_zero]
  apply wpK_val
  · rfl
  · intro w' hw'
    have ha : _ := u32_wrap_nat p q
    go_simp
    first | exact rfl | exact ⟨rfl, hw'⟩
  simp only [Act.put, List.setIfInBounds_toArray, List.set_cons_succ, List.set_cons_zero]
  apply wpK_val
  · rfl
  · intro w' hw'
    go_simp
    first | exact rfl | exact ⟨rfl, hw'⟩
  simp only [Act.put, List.setIfInBounds_toArray, List.set_cons_succ, List.set_cons_zero]
  apply wpK_val
  · rfl
  · intro w' hw'
    go_simp
    first | exact rfl | exact ⟨rfl, hw'⟩
  simp only [Act.put, List.setIfInBounds_toArray, List.set_cons_succ, List.set_cons_zero]
  refine wpK_nil fun w3 hw3 => ?_
  have b0 := hw3.blk B0.out
  have on := only_drew ON.out hw3
  clear hw3 B0 ON C0 w4
  have c1 : w3.cell? ⟨g, idx 7 n, none⟩ = some (.int .u32 (s.get 7 : Nat)) := by
    rw [b0.cell, Array.getElem?_setIfInBounds_ne (by unfold idx; omega)]
    exact letters_at s (l := 7) (by omega) (Nat.le_of_lt hn)
  have c3 := b0.frozen (idx 7 n)
  have B0 := hid b0
  have ON := hid on
  clear b0 on
  go_wp2_with fail
  refine bodyPost_end (v := .tuple #[]) (by simp [results, Tryd.results82]) rfl ⟨rfl, ?_, only_cell ON.out _ _⟩
  have h := B0.out.setCell_same (idx 7 n) (.int .u32 (ShaM.add p q : Nat))
  rw [← HP.out, ← HQ.out] at h
  rw [← HP.out, ← HQ.out, ← letters_step s hn]
  exact h
end Go.Proofs.YtmbhibilmedjmaaDoor
set_option maxRecDepth 100000
namespace Go.Proofs.YtmbhibilmedjmaaDoor
open Go.ChangeShapes Go.WideShapes Go.ChangeAt Go.RowKit
attribute [local go_sem] Gives
/-- 64 numbers. -/
def wds (f : Nat → Nat) : Array Value := row 64 fun k => .int .u32 (f k : Nat)
theorem size_wds {f : Nat → Nat} : (wds f).size = 64 := size_row
theorem get_wds {f : Nat → Nat} {k : Nat} (h : k < 64) : (wds f)[k]? = some (.int .u32 (f k : Nat)) := get_row_lt h
theorem wds_ext {f g : Nat → Nat} (h : ∀ k, k < 64 → f k = g k) : wds f = wds g := row_ext fun k hk => by rw [h k hk]
theorem wds_set {f : Nat → Nat} {k v : Nat} : (wds f).setIfInBounds k (.int .u32 (v : Nat)) = wds fun j => if j = k then v else f j := by
  unfold wds
  rw [row_set]
  exact row_ext fun j _ => by by_cases e : j = k <;> simp [e]
theorem wds_one {f : Nat → Nat} : (wds f).all (·.oneCell') = true := row_one fun _ _ => rfl
theorem zlit_wds : (#[.int .u32 0, .int .u32 0, .int .u32 0, .int .u32 0, .int .u32 0, .int .u32 0, .int .u32 0, .int .u32 0, .int .u32 0, .int .u32 0, .int .u32 0, .int .u32 0, .int .u32 0, .int .u32 0, .int .u32 0, .int .u32 0, .int .u32 0, .int .u32 0, .int .u32 0, .int .u32 0, .int .u32 0, .int .u32 0, .int .u32 0, .int .u32 0, .int .u32 0, .int .u32 0, .int .u32 0, .int .u32 0, .int .u32 0, .int .u32 0, .int .u32 0, .int .u32 0, .int .u32 0, .int .u32 0, .int .u32 0, .int .u32 0, .int .u32 0, .int .u32 0, .int .u32 0, .int .u32 0, .int .u32 0, .int .u32 0, .int .u32 0, .int .u32 0, .int .u32 0, .int .u32 0, .int .u32 0, .int .u32 0, .int .u32 0, .int .u32 0, .int .u32 0, .int .u32 0, .int .u32 0, .int .u32 0, .int .u32 0, .int .u32 0, .int .u32 0, .int .u32 0, .int .u32 0, .int .u32 0, .int .u32 0, .int .u32 0, .int .u32 0, .int .u32 0] : Array Value) = wds fun _ => 0 := by rfl
theorem info_wds : (Tryd.prog.info? 107).map (·.size) = some 64 := by kernel_rfl
section
variable {ops : Array Oper} {Q : Exit → Act → World → Prop} {a : Act} {w : World} {rest : List Oper} {dst : Option Tmp} {ty : TypeId} {pos : String} {after : Array Edge} {x y : Operand} {g : Nat} {f f0 : Nat → Nat}
theorem ldw (hx : a.eval x = .pointer (some ⟨g, 0, none⟩)) (hb : Blk w g 107 (wds f)) (h : wpList Tryd.prog ops Q rest (a.put dst (.agg (wds f))) w) :
    wpList Tryd.prog ops Q (⟨dst, .load 107 x, ty, pos, after, none⟩ :: rest) a w :=
  step_load_row hb Tryd.underlying107 rfl (info_wds.trans (by rw [size_wds])) hx h
theorem stw (hx : a.eval x = .pointer (some ⟨g, 0, none⟩)) (hy : a.eval y = .agg (wds f)) (hb : Blk w g 107 (wds f0)) (h : wpList Tryd.prog ops Q rest (a.put dst undef) (w.setRow g (wds f))) :
    wpList Tryd.prog ops Q (⟨dst, .store 107 x y, ty, pos, after, none⟩ :: rest) a w :=
  step_store_row hb (info_wds.trans (by rw [size_wds])) (by rw [size_wds, size_wds]) wds_one hx hy h
end
theorem wr_nat {x : Int} {j : Nat} (h : x = j) (hj : j < 9223372036854775808) : IntKind.i64.wrap x = (j : Int) := by rw [h]; exact IntWalk.i64_in _ (by omega)
theorem l_nat (x m n : Nat) (d : Nat) (hx : x < 4294967296) : bits .xor .u32 (bits .xor .u32 ((ShaM.rr x m : Nat) : Int) ((ShaM.rr x n : Nat) : Int)) (((x / d : Nat) : Nat) : Int) = (((ShaM.rr x m ^^^ ShaM.rr x n ^^^ (x / d) : Nat) : Nat) : Int) := by
  have hr := fun n => ShaM.rr_lt hx n
  rw [u32_xor_nat _ _ (hr m) (hr n), u32_xor_nat _ _ (Nat.xor_lt_two_pow (n := 32) (hr m) (hr n)) (Nat.lt_of_le_of_lt (Nat.div_le_self _ _) hx)]
theorem l0_nat (x : Nat) (hx : x < 4294967296) : bits .xor .u32 (bits .xor .u32 ((ShaM.rr x 7 : Nat) : Int) ((ShaM.rr x 18 : Nat) : Int)) ((x : Int) / 8) = ((ShaM.l0 x : Nat) : Int) := l_nat x 7 18 8 hx
theorem l1_nat (x : Nat) (hx : x < 4294967296) : bits .xor .u32 (bits .xor .u32 ((ShaM.rr x 17 : Nat) : Int) ((ShaM.rr x 19 : Nat) : Int)) ((x : Int) / 1024) = ((ShaM.l1 x : Nat) : Int) := l_nat x 17 19 1024 hx
theorem or_nat (a b : Nat) (_ha : a < 4294967296) (hb : b < 256) : bits .or .u32 ((a : Int) * 256 % 4294967296) (b : Int) = (((a * 256) % 4294967296 ||| b : Nat) : Int) := by
  rw [show (a : Int) * 256 % 4294967296 = (((a * 256) % 4294967296 : Nat) : Int) by simp, u32_or_nat _ _ (Nat.mod_lt _ (by omega)) (by omega)]
set_option maxHeartbeats 4000000 in
set_option maxRecDepth 100000 in
theorem spread_any (A : Option Addr) (l : List Nat) (cap : Nat) (hl : l.length = 64) (hb : ∀ k, ShaM.at' l k < 256) (w : World) (hs : Byt w w.heap.size A l) :
    Calls Tryd.prog 81 #[.slice A 64 cap] w fun e w' => e = .returned (.agg (wds (ShaM.upM (ShaM.at' l) 48))) ∧ Below w.heap.size w w' := by
  obtain ⟨b, o, rfl, hB, hr⟩ := hs (by omega)
  rw [hl] at hr
  have HB := hid hb
  have HR := hid hr
  clear hs hb hr hl
  go_enter Tryd.func81, Tryd.ntmps81
  go_wp2_with fail
  generalize hw3 : World.alloc (World.alloc w _) _ = w3
  have b1 : Blk w3 w.heap.size 107 (wds fun _ => 0) := by rw [← hw3]; exact (Blk.top zlit_wds rfl).alloc _
  have b2 : Blk w3 (w.heap.size + 1) 107 (wds fun _ => 0) := by rw [← hw3]; exact Blk.top zlit_wds (by simp)
  have hb : Below w.heap.size w w3 := by rw [← hw3]; exact ((Below.refl _ _).alloc (Nat.le_refl _) _).alloc (by simp) _
  clear hw3
  go_loopw [13] (fun i wr => ∃ k : Nat, k ≤ 64 ∧ i = .int .i64 k ∧ Blk wr w.heap.size 107 (wds fun _ => 0) ∧ Blk wr (w.heap.size + 1) 107 (wds (ShaM.part (ShaM.at' l) k)) ∧ Below w.heap.size w wr) (fun i _ => 64 - (intOf i).toNat)
  case atStart => exact ⟨0, by omega, rfl, b1, by rw [show ShaM.part (ShaM.at' l) 0 = fun _ => 0 from funext fun j => ShaM.part_zero _ j]; exact b2, hb⟩
  case round =>
    obtain ⟨k, hk, rfl, b1, b2, hb⟩ := hrel
    by_cases hlt : k < 64
    · have c0 : wr.cell? ⟨b, o + k, none⟩ = some (.int .u8 (ShaM.at' l k : Nat)) := (hb.cell (p := ⟨b, o + k, none⟩) hB).trans (HR.out k hlt)
      have c1 : wr.cell? ⟨w.heap.size + 1, k / 4, none⟩ = some (.int .u32 (ShaM.part (ShaM.at' l) k (k / 4) : Nat)) := (b2.cell _).trans (get_wds (by omega))
      have c3 := b2.frozen (k / 4)
      have hx := HB.out k
      have hp := ShaM.part_lt HB.out k (k / 4)
      have e5 : ((k / 4 : Nat) : Int) < 64 := by omega
      have h4 : k / 4 < 64 := by omega
      go_wp2_with fail
      go_roundw
      case rel =>
        refine ⟨k + 1, by omega, by go_num, b1.setCell_other (by simp) _, ?_, hb.setCell (by simp) _⟩
        have h := b2.setCell_same (k / 4) (.int .u32 (((ShaM.part (ShaM.at' l) k (k / 4) * 256) % 4294967296 ||| ShaM.at' l k : Nat) : Int))
        rw [wds_set] at h
        rw [or_nat _ _ hp hx]
        rw [wds_ext (f := ShaM.part (ShaM.at' l) (k + 1)) (g := fun j => if j = k / 4 then (ShaM.part (ShaM.at' l) k (k / 4) * 256) % 4294967296 ||| ShaM.at' l k else ShaM.part (ShaM.at' l) k j) fun j _ => by
          rw [ShaM.part_step HB.out k j]
          by_cases e : j = k / 4
          · rw [if_pos e, if_pos e, e]
          · rw [if_neg e, if_neg e]]
        exact h
      case measure => simp [intOf]; omega
    · have t0 : decide ((k : Int) < 64) = false := by simp; omega
      rw [show k = 64 by omega] at b2
      go_wp2_with fail
      rw [wds_ext (g := ShaM.upM (ShaM.at' l) 0) fun j _ => (ShaM.first_part _ j).symm] at b2
      go_loopw [6] (fun i w4 => ∃ N k : Nat, Hid (N = 16 + k) ∧ 16 ≤ N ∧ N ≤ 64 ∧ k ≤ 48 ∧ i = .int .i64 N ∧ Blk w4 w.heap.size 107 (wds fun _ => 0) ∧ Blk w4 (w.heap.size + 1) 107 (wds (ShaM.upM (ShaM.at' l) k)) ∧ Below w.heap.size w w4) (fun i _ => 64 - (intOf i).toNat)
      case atStart => exact ⟨16, 0, hid rfl, by omega, by omega, by omega, rfl, b1, b2, hb⟩
      case round =>
        obtain ⟨N, k, hN, hN0, hN1, hk, rfl, b1, b2, hb⟩ := hrel
        by_cases hlt : k < 48
        · obtain ⟨j1, hj1⟩ : ∃ j, j = k + 1 := ⟨_, rfl⟩
          obtain ⟨j9, hj9⟩ : ∃ j, j = k + 9 := ⟨_, rfl⟩
          obtain ⟨j14, hj14⟩ : ∃ j, j = k + 14 := ⟨_, rfl⟩
          have e0 : IntKind.i64.wrap ((N : Int) - 16) = (k : Int) := wr_nat (by have := hN.out; omega) (by omega)
          have e1 : IntKind.i64.wrap ((N : Int) - 15) = (j1 : Int) := wr_nat (by have := hN.out; omega) (by omega)
          have e9 : IntKind.i64.wrap ((N : Int) - 7) = (j9 : Int) := wr_nat (by have := hN.out; omega) (by omega)
          have e14 : IntKind.i64.wrap ((N : Int) - 2) = (j14 : Int) := wr_nat (by have := hN.out; omega) (by omega)
          have t0 : (N : Int) < 64 := by have := hN.out; omega
          have t1 : (j1 : Int) < 64 := by omega
          have t9 : (j9 : Int) < 64 := by omega
          have t14 : (j14 : Int) < 64 := by omega
          have tk : (k : Int) < 64 := by omega
          have C1 := hid ((b2.cell j1).trans (get_wds (by omega)))
          have C0 := hid ((b2.cell k).trans (get_wds (by omega)))
          have C9 := hid ((b2.cell j9).trans (get_wds (by omega)))
          have C14 := hid ((b2.cell j14).trans (get_wds (by omega)))
          have J := hid (And.intro hj1 (And.intro hj9 hj14))
          have E0 := hid e0
          have E1 := hid e1
          have E9 := hid e9
          have E14 := hid e14
          have B1 := hid b1
          have B2 := hid b2
          have HW := hid hb
          clear hj1 hj9 hj14 e0 e1 e9 e14 b1 b2 hb
          go_wp2_with fail
          refine wp_region_tail (C := Drew wr) 10 (by kernel_rfl) (by kernel_rfl) (by kernel_rfl) (Drew.refl _) ?_
          simp only [List.take_succ_cons, List.take_zero, List.drop_succ_cons, List.drop_zero]
          apply wpK_val
          · rfl
          · intro w' hw'
            go_simp
            first | exact rfl | exact ⟨rfl, hw'⟩
          simp only [Act.put, List.setIfInBounds_toArray, List.set_cons_succ, List.set_cons_zero]
          apply wpK_val
          · rfl
          · intro w' hw'
            have h1 : _ := E1.out
            go_simp
            first | exact rfl | exact ⟨rfl, hw'⟩
          simp only [Act.put, List.setIfInBounds_toArray, List.set_cons_succ, List.set_cons_zero]
          apply wpK_val
          · rfl
          · intro w' hw'
            go_simp
            first | exact rfl | exact ⟨rfl, hw'⟩
          simp only [Act.put, List.setIfInBounds_toArray, List.set_cons_succ, List.set_cons_zero]
          apply wpK_val
          · rfl
          · intro w' hw'
            have hcell := hw'.cell C1.out
            go_simp
            first | exact rfl | exact ⟨rfl, hw'⟩
          simp only [Act.put, List.setIfInBounds_toArray, List.set_cons_succ, List.set_cons_zero]
          apply wpK_val
          · rfl
          · intro w' hw'
            go_simp
            first | exact rfl | exact ⟨rfl, hw'⟩
          simp only [Act.put, List.setIfInBounds_toArray, List.set_cons_succ, List.set_cons_zero]
          apply wpK_val
          · rfl
          · intro w' hw'
            have h1 : _ := E14.out
            go_simp
            first | exact rfl | exact ⟨rfl, hw'⟩
          simp only [Act.put, List.setIfInBounds_toArray, List.set_cons_succ, List.set_cons_zero]
          apply wpK_val
          · rfl
          · intro w' hw'
            go_simp
            first | exact rfl | exact ⟨rfl, hw'⟩
          simp only [Act.put, List.setIfInBounds_toArray, List.set_cons_succ, List.set_cons_zero]
          apply wpK_val
          · rfl
          · intro w' hw'
            have hcell := hw'.cell C14.out
            go_simp
            first | exact rfl | exact ⟨rfl, hw'⟩
          simp only [Act.put, List.setIfInBounds_toArray, List.set_cons_succ, List.set_cons_zero]
          apply wpK_val
          · rfl
          · intro w' hw'
            go_simp
            first | exact rfl | exact ⟨rfl, hw'⟩
          simp only [Act.put, List.setIfInBounds_toArray, List.set_cons_succ, List.set_cons_zero]
          apply wpK_val
          · rfl
          · intro w' hw'
            go_simp
            first | exact rfl | exact ⟨rfl, hw'⟩
          simp only [Act.put, List.setIfInBounds_toArray, List.set_cons_succ, List.set_cons_zero]
          refine wpK_nil fun w5 hw5 => ?_
          have b1 := hw5.blk B1.out
          have b2 := hw5.blk B2.out
          have hb := hw5.below HW.out
          clear hw5 B1 B2 HW C1 C14 C0 C9
          have B1 := hid b1
          have B2 := hid b2
          have HW := hid hb
          have C0 := hid ((b2.cell k).trans (get_wds (by omega)))
          have C9 := hid ((b2.cell j9).trans (get_wds (by omega)))
          clear b1 b2 hb
          have x1 := ShaM.upM_lt HB.out k j1
          have x14 := ShaM.upM_lt HB.out k j14
          go_wp2_with fail
          refine (rot_any _ 7 x1 (by omega) (by omega) _).mono ?_
          rintro e w' ⟨rfl, rfl⟩
          go_wp2_with fail
          refine (rot_any _ 18 x1 (by omega) (by omega) _).mono ?_
          rintro e w' ⟨rfl, rfl⟩
          go_wp2_with fail
          refine (rot_any _ 17 x14 (by omega) (by omega) _).mono ?_
          rintro e w' ⟨rfl, rfl⟩
          go_wp2_with fail
          refine (rot_any _ 19 x14 (by omega) (by omega) _).mono ?_
          rintro e w' ⟨rfl, rfl⟩
          go_wp2_with fail
          rw [l0_nat _ x1, l1_nat _ x14]
          refine wp_region_tail (C := Drew w5) 15 (by kernel_rfl) (by kernel_rfl) (by kernel_rfl) (Drew.refl _) ?_
          simp only [List.take_succ_cons, List.take_zero, List.drop_succ_cons, List.drop_zero]
          apply wpK_val
          · rfl
          · intro w' hw'
            go_simp
            first | exact rfl | exact ⟨rfl, hw'⟩
          simp only [Act.put, List.setIfInBounds_toArray, List.set_cons_succ, List.set_cons_zero]
          apply wpK_val
          · rfl
          · intro w' hw'
            go_simp
            first | exact rfl | exact ⟨rfl, hw'⟩
          simp only [Act.put, List.setIfInBounds_toArray, List.set_cons_succ, List.set_cons_zero]
          apply wpK_val
          · rfl
          · intro w' hw'
            have h1 : _ := E0.out
            go_simp
            first | exact rfl | exact ⟨rfl, hw'⟩
          simp only [Act.put, List.setIfInBounds_toArray, List.set_cons_succ, List.set_cons_zero]
          apply wpK_val
          · rfl
          · intro w' hw'
            go_simp
            first | exact rfl | exact ⟨rfl, hw'⟩
          simp only [Act.put, List.setIfInBounds_toArray, List.set_cons_succ, List.set_cons_zero]
          apply wpK_val
          · rfl
          · intro w' hw'
            have hcell := hw'.cell C0.out
            go_simp
            first | exact rfl | exact ⟨rfl, hw'⟩
          simp only [Act.put, List.setIfInBounds_toArray, List.set_cons_succ, List.set_cons_zero]
          apply wpK_val
          · rfl
          · intro w' hw'
            go_simp
            first | exact rfl | exact ⟨rfl, hw'⟩
          simp only [Act.put, List.setIfInBounds_toArray, List.set_cons_succ, List.set_cons_zero]
          apply wpK_val
          · rfl
          · intro w' hw'
            have h1 : _ := u32_wrap_nat (ShaM.upM (ShaM.at' l) k k) (ShaM.l0 (ShaM.upM (ShaM.at' l) k j1))
            go_simp
            first | exact rfl | exact ⟨rfl, hw'⟩
          simp only [Act.put, List.setIfInBounds_toArray, List.set_cons_succ, List.set_cons_zero]
          apply wpK_val
          · rfl
          · intro w' hw'
            go_simp
            first | exact rfl | exact ⟨rfl, hw'⟩
          simp only [Act.put, List.setIfInBounds_toArray, List.set_cons_succ, List.set_cons_zero]
          apply wpK_val
          · rfl
          · intro w' hw'
            have h1 : _ := E9.out
            go_simp
            first | exact rfl | exact ⟨rfl, hw'⟩
          simp only [Act.put, List.setIfInBounds_toArray, List.set_cons_succ, List.set_cons_zero]
          apply wpK_val
          · rfl
          · intro w' hw'
            go_simp
            first | exact rfl | exact ⟨rfl, hw'⟩
          simp only [Act.put, List.setIfInBounds_toArray, List.set_cons_succ, List.set_cons_zero]
          apply wpK_val
          · rfl
          · intro w' hw'
            have hcell := hw'.cell C9.out
            go_simp
            first | exact rfl | exact ⟨rfl, hw'⟩
          simp only [Act.put, List.setIfInBounds_toArray, List.set_cons_succ, List.set_cons_zero]
          apply wpK_val
          · rfl
          · intro w' hw'
            have h1 : _ := u32_wrap_nat (ShaM.add (ShaM.upM (ShaM.at' l) k k) (ShaM.l0 (ShaM.upM (ShaM.at' l) k j1))) (ShaM.upM (ShaM.at' l) k j9)
            go_simp
            first | exact rfl | exact ⟨rfl, hw'⟩
          simp only [Act.put, List.setIfInBounds_toArray, List.set_cons_succ, List.set_cons_zero]
          apply wpK_val
          · rfl
          · intro w' hw'
            go_simp
            first | exact rfl | exact ⟨rfl, hw'⟩
          simp only [Act.put, List.setIfInBounds_toArray, List.set_cons_succ, List.set_cons_zero]
          apply wpK_val
          · rfl
          · intro w' hw'
            have h1 : _ := u32_wrap_nat (ShaM.add (ShaM.add (ShaM.upM (ShaM.at' l) k k) (ShaM.l0 (ShaM.upM (ShaM.at' l) k j1))) (ShaM.upM (ShaM.at' l) k j9)) (ShaM.l1 (ShaM.upM (ShaM.at' l) k j14))
            go_simp
            first | exact rfl | exact ⟨rfl, hw'⟩
          simp only [Act.put, List.setIfInBounds_toArray, List.set_cons_succ, List.set_cons_zero]
          apply wpK_val
          · rfl
          · intro w' hw'
            go_simp
            first | exact rfl | exact ⟨rfl, hw'⟩
          simp only [Act.put, List.setIfInBounds_toArray, List.set_cons_succ, List.set_cons_zero]
          refine wpK_nil fun w4 hw4 => ?_
          have b1 := hw4.blk B1.out
          have b2 := hw4.blk B2.out
          have hb := hw4.below HW.out
          clear hw4 B1 B2 HW C0 C9
          have hN' := hN.out
          have c1 := (b2.cell N).trans (get_wds (by omega))
          have c3 := b2.frozen N
          clear hN'
          have B1 := hid b1
          have B2 := hid b2
          have HW := hid hb
          clear b1 b2 hb
          go_wp2_with fail
          go_roundw
          case rel =>
            obtain ⟨r1, r9, r14⟩ := J.out
            have rN := hN.out
            subst r1 r9 r14
            refine ⟨N + 1, k + 1, hid (by omega), by omega, by omega, by omega, by go_num, B1.out.setCell_other (by simp) _, ?_, HW.out.setCell (by simp) _⟩
            have h := B2.out.setCell_same N (.int .u32 ((ShaM.add (ShaM.add (ShaM.add (ShaM.upM (ShaM.at' l) k k) (ShaM.l0 (ShaM.upM (ShaM.at' l) k (k + 1)))) (ShaM.upM (ShaM.at' l) k (k + 9))) (ShaM.l1 (ShaM.upM (ShaM.at' l) k (k + 14))) : Nat) : Int))
            rw [wds_set] at h
            rw [wds_ext (f := ShaM.upM (ShaM.at' l) (k + 1)) (g := fun j => if j = N then ShaM.add (ShaM.add (ShaM.add (ShaM.upM (ShaM.at' l) k k) (ShaM.l0 (ShaM.upM (ShaM.at' l) k (k + 1)))) (ShaM.upM (ShaM.at' l) k (k + 9))) (ShaM.l1 (ShaM.upM (ShaM.at' l) k (k + 14))) else ShaM.upM (ShaM.at' l) k j) fun j _ => by
              rw [ShaM.upM_step, ShaM.next_upM, rN]]
            exact h
          case measure => simp [intOf]; omega
        · obtain rfl : k = 48 := by omega
          have t0 : decide ((N : Int) < 64) = false := by have := hN.out; simp; omega
          go_wp2_with (first | ((with_reducible apply ldw); rfl; assumption) | ((with_reducible apply stw); rfl; rfl; assumption))
          apply ret_row Tryd.results81
          · exact b1.setRow_same _
          · exact Tryd.underlying107
          · rfl
          · exact (info_wds.trans (by rw [size_wds]))
          · rfl
          · rfl
          exact ⟨rfl, below_setRow hb (by omega) _⟩
end Go.Proofs.YtmbhibilmedjmaaDoor
