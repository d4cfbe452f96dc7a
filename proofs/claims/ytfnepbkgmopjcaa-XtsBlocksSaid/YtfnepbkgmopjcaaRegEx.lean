/-
  A region that draws its order, whose values may hang on the order and on what a call makes of the world: of each operation's value one states what it is like (S), what the world then holds of it (D, kept by what the others do: K), and which operations have come up (C).
-/
import Derived.Test.YtfnepbkgmopjcaaRegRel2
import Derived.Test.YtfnepbkgmopjcaaRegSet
namespace Go.Proofs.Ytfnepbkgmopjcaa
open Go.RowKit
/-- One operation, carried out in the world w; R holds of what it yields and of the world behind it. -/
def GivesE (P : Program) (o : Oper) (a : Act) (w : World) (R : Value → World → Prop) : Prop :=
  match (execOp a.eval o).run P w with
  | .ok (.value u) w' => R u w'
  | .ok .skip w' => R undef w'
  | .ok (.enter f args) w' => Calls P f args w' fun e w'' => ∃ v, e = .returned v ∧ R v w''
  | _ => False
theorem wp_of_givesE {P : Program} {o : Oper} {a : Act} {w : World} {R : Value → World → Prop} {K : Act → World → Prop} {Q : Exit → Act → World → Prop}
    (h : GivesE P o a w R) (hK : ∀ v w', R v w' → K (a.put o.dst v) w') : o.wp P a w K Q := by
  unfold GivesE at h
  unfold Oper.wp
  generalize (execOp a.eval o).run P w = r at *
  cases r with
  | ok n w' =>
    cases n <;> simp only at h <;> simp only [Oper.upon]
    case value u => exact hK _ _ h
    case skip => exact hK _ _ h
    case enter f args => exact h.mono fun e w'' ⟨v, he, hr⟩ => by subst he; exact hK _ _ hr
  | halt x w' => cases h
theorem givesE_mono {P : Program} {o : Oper} {a : Act} {w : World} {R R' : Value → World → Prop} (h : GivesE P o a w R) (hr : ∀ v w', R v w' → R' v w') : GivesE P o a w R' := by
  unfold GivesE at *
  generalize (execOp a.eval o).run P w = r at *
  cases r with
  | ok n w' =>
    cases n <;> simp only at h ⊢
    case value u => exact hr _ _ h
    case skip => exact hr _ _ h
    case enter f args => exact h.mono fun e w'' ⟨v, he, hR⟩ => ⟨v, he, hr _ _ hR⟩
  | halt x w' => exact h
section
variable {P : Program} {ops : Array Oper}
/-- The head of a region: the first n operations, in whatever order; behind them the tail. -/
theorem head_anyE {Γ : Type} {n g : Nat} {Q : Exit → Act → World → Prop} {vals : Γ → Nat → Value} {C : Γ → Array Bool → World → Prop} {a0 : Act} (ht : tidy ops = true) (hn : n ≤ ops.size)
    (hstep : ∀ k o, k < n → ops[k]? = some o → ∀ γ L w, L.size = ops.size → Closed ops L → k ∈ Region.ready .any ops L → C γ L w →
      ((Region.wanted o (yielded ops (fr ops (vals γ) (fun j => decide (j < k)) ops.size a0).tmps) = true ∧ GivesE P o (fr ops (vals γ) (fun j => decide (j < k)) ops.size a0) w (fun v w' => ∃ γ', (∀ j, L.getD j false = true → vals γ j = vals γ' j) ∧ vals γ' k = v ∧ C γ' (L.setIfInBounds k true) w')) ∨
      (Region.wanted o (yielded ops (fr ops (vals γ) (fun j => decide (j < k)) ops.size a0).tmps) = false ∧ ∃ γ', (∀ j, L.getD j false = true → vals γ j = vals γ' j) ∧ vals γ' k = undef ∧ C γ' (L.setIfInBounds k true) w)))
    (hsink : ∀ L, L.size = ops.size → Closed ops L → (∀ t, n ≤ t → t < ops.size → L.getD t true = false) → ∀ i, i < n → L.getD i true = false → ∀ t ∈ Region.ready .any ops L, t < n)
    (htail : ∀ γ L w, L.size = ops.size → (∀ i, i < n → L.getD i false = true) → (∀ t, n ≤ t → t < ops.size → L.getD t true = false) → C γ L w →
      wpAny P .any ops Q g L (fr ops (vals γ) (fun j => decide (j < n)) ops.size a0) w) :
    ∀ (f : Nat) (γ : Γ) (L : Array Bool) (w : World), L.size = ops.size → Closed ops L → (∀ t, n ≤ t → t < ops.size → L.getD t true = false) → cnt n L = f → C γ L w →
      wpAny P .any ops Q (f + g) L (fr ops (vals γ) (fun j => L.getD j false) ops.size a0) w
  | 0, γ, L, w, hs, hcl, htl, hc, hC => by
    have hall : ∀ i, i < n → L.getD i false = true := fun i hi => by
      have h1 : ∀ j ∈ List.range n, ¬ (!L.getD j true) = true := List.countP_eq_zero.1 hc
      have h2 := h1 i (List.mem_range.2 hi)
      exact getD_up (by omega) (by simpa using h2)
    rw [Nat.zero_add, fr_congr (l' := fun j => decide (j < n)) fun j hj => ?_]
    · exact htail γ L w hs hall htl hC
    · by_cases hjn : j < n
      · rw [hall j hjn]; simp [hjn]
      · rw [getD_both (htl j (by omega) hj)]; simp [hjn]
  | f + 1, γ, L, w, hs, hcl, htl, hc, hC => by
    rw [show f + 1 + g = (f + g) + 1 by omega]
    -- the least that has not come up may come up
    have hex : ∃ i, i < n ∧ L.getD i true = false := by
      have hpos : 0 < (List.range n).countP fun i => !L.getD i true := by unfold cnt at hc; omega
      obtain ⟨i, hi, h1⟩ := List.countP_pos_iff.1 hpos
      exact ⟨i, List.mem_range.1 hi, by simpa using h1⟩
    have hready : ∃ i, i ∈ Region.ready .any ops L := by
      obtain ⟨i, hi, hun⟩ := hex
      induction i using Nat.strongRecOn with
      | _ i ih =>
        by_cases hless : ∃ j, j < i ∧ L.getD j true = false
        · obtain ⟨j, hj, hjun⟩ := hless
          exact ih j hj (by omega) hjun
        · have hio : i < ops.size := by omega
          refine ⟨i, mem_ready.2 ⟨hun, ops[i], Array.getElem?_eq_getElem hio, fun e he hb => ?_⟩⟩
          have hlt := tidy_edge ht (Array.getElem?_eq_getElem hio) e he hb
          refine getD_up (by omega) ?_
          cases h0 : L.getD e.on true with
          | true => rfl
          | false => exact absurd ⟨e.on, hlt, h0⟩ hless
    obtain ⟨i0, hi0, hun0⟩ := hex
    refine ⟨fun h0 => (by obtain ⟨i, hi⟩ := hready; rw [h0] at hi; cases hi), fun i hi => ?_⟩
    have hin : i < n := hsink L hs hcl htl i0 hi0 hun0 i hi
    obtain ⟨hun, o, ho, _⟩ := mem_ready.1 hi
    have hio : i < ops.size := by omega
    obtain ⟨hex1, hex2⟩ := exec_same (vals := vals γ) (n := ops.size) (a := a0) ht ho hcl hi
    have hst := hstep i o hin ho γ L w hs hcl hi hC
    have hnext : ∀ γ' w', (∀ j, L.getD j false = true → vals γ j = vals γ' j) → C γ' (L.setIfInBounds i true) w' → wpAny P .any ops Q (f + g) (L.setIfInBounds i true) ((fr ops (vals γ) (fun j => L.getD j false) ops.size a0).put o.dst (vals γ' i)) w' := fun γ' w' hag hC' => by
      have ih := head_anyE (g := g) (Q := Q) ht hn hstep hsink htail f γ' (L.setIfInBounds i true) w' (by simpa using hs) (closed_set hcl hi) (fun t h1 h2 => by rw [getD_set_ne true (by omega)]; exact htl t h1 h2)
        (by
          have h1 : cnt n (L.setIfInBounds i true) + 1 = cnt n L := by
            refine countP_one (i := i) (by simpa using hun) ?_ (fun j hj => by rw [getD_set_ne true (Ne.symm hj)]) List.nodup_range (List.mem_range.2 hin)
            simp [show i < L.size by omega]
          omega) hC'
      rw [fr_congr (l' := fun j => L.getD j false || j == i) fun j _ => ?_, fr_set ht (getD_both hun) hio, ← fr_vals fun j _ hj => hag j hj] at ih
      · unfold dstAt at ih; rw [ho] at ih; exact ih
      · by_cases e : j = i
        · subst e; simp [show j < L.size by omega]
        · have : (j == i) = false := by simpa using e
          rw [getD_set_ne false (Ne.symm e), this, Bool.or_false]
    unfold wpOp
    simp only [ho]
    rcases hst with ⟨hw, hg⟩ | ⟨hw, γ', hag, hv, hC'⟩
    · rw [hex2, if_pos hw]
      refine .inl (wp_of_givesE (R := fun v w' => ∃ γ', (∀ j, L.getD j false = true → vals γ j = vals γ' j) ∧ vals γ' i = v ∧ C γ' (L.setIfInBounds i true) w') ?_ fun v w' ⟨γ', hag, hv, hC'⟩ => by rw [← hv]; exact hnext γ' w' hag hC')
      unfold GivesE at hg ⊢
      rw [hex1]; exact hg
    · rw [hex2, hw, if_neg (by simp)]
      rw [← hv]
      exact hnext γ' w hag hC'

theorem region_coreE {id : Nat} {Q : Exit → Act → World → Prop} {Γ : Type} {C : Γ → Array Bool → World → Prop} {a : Act} {w : World} {l : List Oper} (n : Nat) (hm : P.follows .mixedOrders = true) (ht : tidy l.toArray = true) (hB : tailB l.toArray n = true)
    (γ0 : Γ) (hC : C γ0 (Array.replicate l.length false) w.drew) (vals : Γ → Nat → Value)
    (hs : ∀ i o, (l.take n)[i]? = some o → ∀ γ L w, L.size = l.length → i ∈ Region.ready .any l.toArray L → C γ L w →
      ((Region.wanted o (yielded l.toArray (lexF (l.take n) (vals γ) i a).tmps) = true ∧ GivesE P o (lexF (l.take n) (vals γ) i a) w (fun v w' => ∃ γ', (∀ j, L.getD j false = true → vals γ j = vals γ' j) ∧ vals γ' i = v ∧ C γ' (L.setIfInBounds i true) w')) ∨
      (Region.wanted o (yielded l.toArray (lexF (l.take n) (vals γ) i a).tmps) = false ∧ ∃ γ', (∀ j, L.getD j false = true → vals γ j = vals γ' j) ∧ vals γ' i = undef ∧ C γ' (L.setIfInBounds i true) w)))
    (hq : ∀ γ L w', (∀ i, i < n → L.getD i false = true) → C γ L w' → wpList P l.toArray Q (l.drop n) (lexF (l.take n) (vals γ) (l.take n).length a) w') : (Code.region id l.toArray true).wp P Q a w := by
  refine wp_region_any hm ?_
  have hn : n ≤ l.toArray.size := by
    simp only [tailB, Bool.or_eq_true, Bool.and_eq_true, decide_eq_true_eq] at hB
    rcases hB with h | h <;> omega
  have hlen : (l.take n).length = n := by rw [List.length_take]; simp at hn; omega
  simp only [hlen] at hq
  have hfr : ∀ (γ : Γ) i, i ≤ n → lexF (l.take n) (vals γ) i a = fr l.toArray (vals γ) (fun j => decide (j < i)) l.toArray.size a := fun γ i hi => by
    have := lexF_fr (ops := l.toArray) (vals := vals γ) (a := a) hn i hi
    simpa using this
  have H := head_anyE (P := P) (ops := l.toArray) (n := n) (g := l.toArray.size - n) (Q := Q) (vals := vals) (C := C) (a0 := a) ht hn
    (fun k o hk ho γ L w' hsz _ hr hC' => by
      have hko : (l.take n)[k]? = some o := by rw [List.getElem?_take_of_lt hk]; simpa using ho
      have := hs k o hko γ L w' (by simpa using hsz) hr hC'
      rwa [hfr γ k (by omega)] at this)
    (fun L hL hcl htl i hi hun t hr => by
      obtain ⟨hunt, o, ho, _⟩ := mem_ready.1 hr
      have hto : t < l.toArray.size := (Array.getElem?_eq_some_iff.1 ho).1
      simp only [tailB, Bool.or_eq_true, Bool.and_eq_true, decide_eq_true_eq] at hB
      rcases hB with hB | ⟨⟨⟨hB1, hB2⟩, hB3⟩, _⟩
      · omega
      · rcases Nat.lt_or_ge t n with h | h
        · exact h
        · exact absurd hr (tail_waits hB2 hB3 hB1 ⟨hL, hcl, htl⟩ _ i rfl hi hun t h))
    (fun γ L w' hL hall htl hC' => by
      rw [← hfr γ n (Nat.le_refl n)]
      have hlist := hq γ L w' hall hC'
      have hLe : L = tailL n (l.toArray.size - n) := by
        apply Array.ext_getElem?
        intro j
        unfold tailL
        rw [show ((List.replicate n true ++ List.replicate (l.toArray.size - n) false).toArray)[j]? = (List.replicate n true ++ List.replicate (l.toArray.size - n) false)[j]? from List.getElem?_toArray .., List.getElem?_append]
        simp only [List.length_replicate]
        by_cases hj : j < n
        · have := hall j hj
          rw [if_pos hj]
          simp [show j < L.size by omega] at this
          simp [hj, show j < L.size by omega, this]
        · rw [if_neg hj]
          by_cases hj2 : j < l.toArray.size
          · have := htl j (by omega) hj2
            simp [show j < L.size by omega] at this
            rw [Array.getElem?_eq_getElem (by omega), this, List.getElem?_replicate, if_pos (by omega)]
          · rw [Array.getElem?_eq_none (by omega), List.getElem?_replicate, if_neg (by omega)]
      simp only [tailB, Bool.or_eq_true, Bool.and_eq_true, decide_eq_true_eq] at hB
      rcases hB with hB | ⟨⟨⟨hB1, hB2⟩, hB3⟩, hB4⟩
      · rw [show l.toArray.size - n = 0 by omega]
        have hd : l.drop n = [] := List.drop_eq_nil_of_le (by simp at hB; omega)
        rw [hd] at hlist
        refine ⟨?_, hlist⟩
        apply List.eq_nil_iff_forall_not_mem.2
        intro t hr
        obtain ⟨hunt, o, ho, _⟩ := mem_ready.1 hr
        have hto : t < l.toArray.size := (Array.getElem?_eq_some_iff.1 ho).1
        have := hall t (by omega)
        rw [getD_both hunt] at this
        cases this
      · have hdl : (l.drop n).length = l.toArray.size - n := by simp
        have := wpAny_of_seq (P := P) (ops := l.toArray) (md := .any) (Q' := Q) (l.drop n) n L _ w' (fun j => by simp [List.getElem?_drop]) (by rw [hdl, hLe]; exact hB4) hlist
        rwa [hdl] at this)
    (cnt n (Array.replicate l.toArray.size false)) γ0 (Array.replicate l.toArray.size false) w.drew (by simp) (fun j o _ hl => by rw [getD_replicate_false] at hl; cases hl)
    (fun t _ hts => getD_in (by simpa using hts) (getD_replicate_false _ _)) rfl (by simpa using hC)
  have hc : cnt n (Array.replicate l.toArray.size false) = n := by
    unfold cnt
    have : ∀ i ∈ List.range n, (!(Array.replicate l.toArray.size false).getD i true) = true := fun i hi => by
      have hi' := List.mem_range.1 hi
      have : i < l.length := by simp at hn; omega
      simp [this]
    rw [List.countP_eq_length.2 this, List.length_range]
  rw [hc, show n + (l.toArray.size - n) = l.toArray.size by omega] at H
  have hz : fr l.toArray (vals γ0) (fun j => (Array.replicate l.toArray.size false).getD j false) l.toArray.size a = a := by
    rw [fr_congr (l' := fun j => decide (j < 0)) fun j _ => by rw [getD_replicate_false]; simp]
    have := fr_stop (ops := l.toArray) (vals := vals γ0) (k := 0) l.toArray.size a
    rw [Nat.zero_add] at this
    exact this
  rw [hz] at H
  exact H

/-- The operations in the order of the text, the k-th first. -/
def wpE (P : Program) (ops : Array Oper) (S : Nat → Value → Prop) (D : Nat → (Nat → Value) → World → Prop) (K : Nat → (Nat → Value) → World → World → Prop) (C : (Nat → Bool) → World → Prop) (Q : (Nat → Value) → Act → Prop) : Nat → (Nat → Value) → List Oper → Act → Prop
  | _, vs, [], a => Q vs a
  | k, vs, o :: rest, a => ((Region.wanted o (yielded ops a.tmps) = true ∧ ∀ d w, d k = false → C d w → (∀ j, Region.waitsFor .any ops k j = true → D j vs w) →
      GivesE P o a w fun v w' => S k v ∧ C (upB d k) w' ∧ K k vs w w' ∧ D k (updV vs k v) w') ∨
      (Region.wanted o (yielded ops a.tmps) = false ∧ S k undef ∧ (∀ d w, C d w → C (upB d k) w) ∧ ∀ w, D k (updV vs k undef) w)) ∧ (S k (vs k) → wpE P ops S D K C Q (k + 1) vs rest (a.put o.dst (vs k)))
theorem wpE_at {S : Nat → Value → Prop} {D : Nat → (Nat → Value) → World → Prop} {K : Nat → (Nat → Value) → World → World → Prop} {C : (Nat → Bool) → World → Prop} {Qk : (Nat → Value) → Act → Prop} {vs : Nat → Value} (hS : ∀ j, S j (vs j)) : ∀ (l : List Oper) (k : Nat) (a : Act), wpE P ops S D K C Qk k vs l a →
    Qk vs (lexF l (fun i => vs (k + i)) l.length a) ∧ ∀ i o, l[i]? = some o →
      ((Region.wanted o (yielded ops (lexF l (fun i => vs (k + i)) i a).tmps) = true ∧ ∀ d w, d (k + i) = false → C d w → (∀ j, Region.waitsFor .any ops (k + i) j = true → D j vs w) →
        GivesE P o (lexF l (fun i => vs (k + i)) i a) w fun v w' => S (k + i) v ∧ C (upB d (k + i)) w' ∧ K (k + i) vs w w' ∧ D (k + i) (updV vs (k + i) v) w') ∨
      (Region.wanted o (yielded ops (lexF l (fun i => vs (k + i)) i a).tmps) = false ∧ S (k + i) undef ∧ (∀ d w, C d w → C (upB d (k + i)) w) ∧ ∀ w, D (k + i) (updV vs (k + i) undef) w))
  | [], k, a, h => ⟨h, fun i o hi => by simp at hi⟩
  | o :: l, k, a, h => by
    obtain ⟨h1, h2⟩ := h
    obtain ⟨hq, hs⟩ := wpE_at hS l (k + 1) _ (h2 (hS k))
    have e : (fun i => vs (k + 1 + i)) = fun i => vs (k + (i + 1)) := funext fun i => by rw [show k + 1 + i = k + (i + 1) by omega]
    rw [e] at hq hs
    refine ⟨?_, fun i o' hi => ?_⟩
    · rw [List.length_cons, lexF_cons]; exact hq
    · cases i with
      | zero =>
        simp only [List.getElem?_cons_zero, Option.some.injEq] at hi
        subst hi
        exact h1
      | succ i =>
        rw [lexF_cons, show k + (i + 1) = k + 1 + i by omega]
        exact hs i o' (by simpa using hi)
theorem wp_region_ex {id : Nat} {Q : Exit → Act → World → Prop} {C : (Nat → Bool) → World → Prop} {S : Nat → Value → Prop} {D : Nat → (Nat → Value) → World → Prop} {K : Nat → (Nat → Value) → World → World → Prop} {a : Act} {w : World} {l : List Oper} (n : Nat)
    (hm : P.follows .mixedOrders = true) (ht : tidy l.toArray = true) (hB : tailB l.toArray n = true)
    (v0 : Nat → Value) (h0 : ∀ j, S j (v0 j)) (hD : ∀ i j vs w w', i < n → j ≠ i → Region.waitsFor .any l.toArray j i = false → D j vs w → K i vs w w' → D j vs w')
    (hL : ∀ j i vs v w, j ≠ i → Region.waitsFor .any l.toArray j i = false → D j vs w → D j (updV vs i v) w)
    (hC : C (fun _ => false) w.drew)
    (h : ∀ vs : Nat → Value, wpE P l.toArray S D K C (fun vs a' => ∀ d w', (∀ k, k < n → d k = true) → C d w' → (∀ k, k < n → D k vs w') → wpList P l.toArray Q (l.drop n) a' w') 0 vs (l.take n) a) : (Code.region id l.toArray true).wp P Q a w := by
  refine region_coreE (Γ := {vs : Nat → Value // ∀ j, S j (vs j)}) (C := fun γ L w' => C (fun j => L.getD j false) w' ∧ Closed l.toArray L ∧ ∀ k, k < n → L.getD k false = true → D k γ.1 w') n hm ht hB ⟨v0, h0⟩
    ⟨by rw [show (fun j => (Array.replicate l.length false).getD j false) = fun _ => false from funext fun j => getD_replicate_false _ j]; exact hC, (fun j o _ hl => by rw [getD_replicate_false] at hl; cases hl), fun k _ hk => by rw [getD_replicate_false] at hk; cases hk⟩ (fun γ => γ.1) ?_ ?_
  · intro i o hi γ L w' hsz hr ⟨hC', hcl, hDs⟩
    have hin : i < n := by
      have := (List.getElem?_eq_some_iff.1 hi).1
      rw [List.length_take] at this; omega
    have hun := getD_both (mem_ready.1 hr).1
    have hlt : i < L.size := by
      obtain ⟨o', ho', _⟩ := (mem_ready.1 hr).2
      have := (Array.getElem?_eq_some_iff.1 ho').1
      simp at this; omega
    have hup : (fun j => (L.setIfInBounds i true).getD j false) = upB (fun j => L.getD j false) i := funext fun j => by
      unfold upB
      by_cases e : j = i
      · subst e; rw [if_pos rfl]; simp [hlt]
      · rw [if_neg e, getD_set_ne false (Ne.symm e)]
    have hcl2 := closed_set hcl hr
    have key := (wpE_at γ.2 (l.take n) 0 a (h γ.1)).2 i o hi
    simp only [Nat.zero_add] at key
    have hwait : ∀ j, Region.waitsFor .any l.toArray i j = true → D j γ.1 w' := fun j hj => by
      have h1 := waits_ready hr hj
      have hji : j < i := by
        obtain ⟨o2, ho2, e2, he2, hb2, hon⟩ := Region.waitsFor_spec hj
        have := tidy_edge ht ho2 e2 he2 hb2
        omega
      exact hDs j (by omega) h1
    have step : ∀ (v : Value) (w2 : World), C (upB (fun j => L.getD j false) i) w2 → (w2 = w' ∨ K i γ.1 w' w2) → D i (updV γ.1 i v) w2 →
        C (fun j => (L.setIfInBounds i true).getD j false) w2 ∧ Closed l.toArray (L.setIfInBounds i true) ∧ ∀ k, k < n → (L.setIfInBounds i true).getD k false = true → D k (updV γ.1 i v) w2 := fun v w2 hc hb hd => by
      refine ⟨by rw [hup]; exact hc, hcl2, fun k hk hL' => ?_⟩
      by_cases e : k = i
      · subst e; exact hd
      · rw [getD_set_ne false (Ne.symm e)] at hL'
        have hw : Region.waitsFor .any l.toArray k i = false := by
          cases hx : Region.waitsFor .any l.toArray k i with
          | false => rfl
          | true =>
            have := waits_closed hcl hL' hx
            rw [hun] at this
            cases this
        refine hL k i _ v _ e hw ?_
        rcases hb with rfl | hb
        · exact hDs k hk hL'
        · exact hD i k _ _ _ hin e hw (hDs k hk hL') hb
    have upd : ∀ v, S i v → ∀ j, S j (updV γ.1 i v j) := fun v hv j => by
      by_cases e : j = i
      · subst e; rw [updV_self]; exact hv
      · rw [updV_ne _ _ e]; exact γ.2 j
    have keep : ∀ v j, L.getD j false = true → γ.1 j = updV γ.1 i v j := fun v j hj => by
      have : j ≠ i := fun e => by subst e; rw [hun] at hj; cases hj
      rw [updV_ne _ _ this]
    rcases key with ⟨k1, k2⟩ | ⟨k1, k2, k3, k4⟩
    · refine .inl ⟨k1, givesE_mono (k2 _ w' hun hC' hwait) fun v w2 ⟨h1, h2, h3, h4⟩ => ⟨⟨updV γ.1 i v, upd v h1⟩, keep v, updV_self _ _ _, step v w2 h2 (.inr h3) h4⟩⟩
    · exact .inr ⟨k1, ⟨updV γ.1 i undef, upd undef k2⟩, keep undef, updV_self _ _ _, step undef w' (k3 _ _ hC') (.inl rfl) (k4 w')⟩
  · intro γ L w' hall ⟨hC', _, hDs⟩
    have key := (wpE_at γ.2 (l.take n) 0 a (h γ.1)).1
    have ez : (fun i => γ.1 (0 + i)) = γ.1 := funext fun i => by rw [Nat.zero_add]
    rw [ez] at key
    exact key _ w' hall hC' fun k hk => hDs k hk (hall k hk)
end
end Go.Proofs.Ytfnepbkgmopjcaa
