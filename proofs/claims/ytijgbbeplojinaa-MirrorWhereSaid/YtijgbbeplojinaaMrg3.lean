/-
  A region that draws its order, whose values may hang on the order and on what a call makes of the world: of each operation's value one states what it is like (S), what the world then holds of it (D, kept by what the others do: K), and which operations have come up (C).
  Rows of bytes of any type compared; loaded, in regions whose values hang on their order.
  Regions whose values hang on their order: known values, and operations whose value is only known to be of a kind, with what the world holds of it.
  Lists of elements: a literal of one element; a struct's literal; one element that stands in a new block.
  Lists of elements: an append to a slice that is full: a row of its own.
  A region that draws its order: of each operation's value one states what it is like (S); of the worlds what holds by which operations have come up, and by their values (C).
  Results that lie in a row of bytes and in slots; a row of zeros built; a row of one kind of bytes, zero.
  '==' of structs whose fields are rows of bytes.
  What a cell holds, as a value: a count and a label; laid, loaded, compared.
  Lists of elements in a block of their own: read off ranges; several cells stored; cut; cleared.
  The document's cell: what stands in memory of it, and its calls.
  The document's cell: New, Advance, Copy, Same.
  What is wanted of the program's cell: the contracts of its calls, over whatever it lays in memory; a cell alone; the law's works.
  A bus in plain words: members, a cell, steps, what went over it; nothing of the program stands here.
  Where a write lies, in plain numbers; what is done to its members, one behind the other.
  Lists of elements: a literal of two elements.
  Contracts of place over this translation.
  Rows of bytes: compared, built, returned beside a number.
-/
import Derived.Test.YtijgbbeplojinaaMrg2
import Derived.Deep.WholeRow
import Derived.Laws.IdiomCopy
set_option linter.unusedVariables false
set_option linter.unusedSimpArgs false
set_option maxRecDepth 100000
namespace Go.Proofs.Ytijgbbeplojinaa
open Go.RowKit
/-- One operation, carried out in the world w; R holds of what it yields and of the world behind it. -/
def GivesE (P : Program) (o : Oper) (a : Act) (w : World) (R : Value → World → Prop) : Prop :=
  match (execOp a.eval o).run P w with
  | .ok (.value u) w' => R u w'
  | .ok .skip w' => R undef w'
  | .ok (.enter f args) w' => Calls P f args w' fun e w'' => ∃ v, e = .returned v ∧ R v w''
  | _ => False
theorem wp_of_givesE {P : Program} {o : Oper} {a : Act} {w : World} {R : Value → World → Prop} {K : Act → World → Prop} {Q : Exit → Act → World → Prop}
    (h : GivesE P o a w R) (hK : ∀ v w', R v w' → K (a.put o.dst v) w') : o.wp P a w K Q := by
  unfold GivesE at h
  unfold Oper.wp
  generalize (execOp a.eval o).run P w = r at *
  cases r with
  | ok n w' =>
    cases n <;> simp only at h <;> simp only [Oper.upon]
    case value u => exact hK _ _ h
    case skip => exact hK _ _ h
    case enter f args => exact h.mono fun e w'' ⟨v, he, hr⟩ => by subst he; exact hK _ _ hr
  | halt x w' => cases h
theorem givesE_mono {P : Program} {o : Oper} {a : Act} {w : World} {R R' : Value → World → Prop} (h : GivesE P o a w R) (hr : ∀ v w', R v w' → R' v w') : GivesE P o a w R' := by
  unfold GivesE at *
  generalize (execOp a.eval o).run P w = r at *
  cases r with
  | ok n w' =>
    cases n <;> simp only at h ⊢
    case value u => exact hr _ _ h
    case skip => exact hr _ _ h
    case enter f args => exact h.mono fun e w'' ⟨v, he, hR⟩ => ⟨v, he, hr _ _ hR⟩
  | halt x w' => exact h
section
variable {P : Program} {ops : Array Oper}
/-- The head of a region: the first n operations, in whatever order; behind them the tail. -/
theorem head_anyE {Γ : Type} {n g : Nat} {Q : Exit → Act → World → Prop} {vals : Γ → Nat → Value} {C : Γ → Array Bool → World → Prop} {a0 : Act} (ht : tidy ops = true) (hn : n ≤ ops.size)
    (hstep : ∀ k o, k < n → ops[k]? = some o → ∀ γ L w, L.size = ops.size → Closed ops L → k ∈ Region.ready .any ops L → C γ L w →
      ((Region.wanted o (yielded ops (fr ops (vals γ) (fun j => decide (j < k)) ops.size a0).tmps) = true ∧ GivesE P o (fr ops (vals γ) (fun j => decide (j < k)) ops.size a0) w (fun v w' => ∃ γ', (∀ j, L.getD j false = true → vals γ j = vals γ' j) ∧ vals γ' k = v ∧ C γ' (L.setIfInBounds k true) w')) ∨
      (Region.wanted o (yielded ops (fr ops (vals γ) (fun j => decide (j < k)) ops.size a0).tmps) = false ∧ ∃ γ', (∀ j, L.getD j false = true → vals γ j = vals γ' j) ∧ vals γ' k = undef ∧ C γ' (L.setIfInBounds k true) w)))
    (hsink : ∀ L, L.size = ops.size → Closed ops L → (∀ t, n ≤ t → t < ops.size → L.getD t true = false) → ∀ i, i < n → L.getD i true = false → ∀ t ∈ Region.ready .any ops L, t < n)
    (htail : ∀ γ L w, L.size = ops.size → (∀ i, i < n → L.getD i false = true) → (∀ t, n ≤ t → t < ops.size → L.getD t true = false) → C γ L w →
      wpAny P .any ops Q g L (fr ops (vals γ) (fun j => decide (j < n)) ops.size a0) w) :
    ∀ (f : Nat) (γ : Γ) (L : Array Bool) (w : World), L.size = ops.size → Closed ops L → (∀ t, n ≤ t → t < ops.size → L.getD t true = false) → cnt n L = f → C γ L w →
      wpAny P .any ops Q (f + g) L (fr ops (vals γ) (fun j => L.getD j false) ops.size a0) w
  | 0, γ, L, w, hs, hcl, htl, hc, hC => by
    have hall : ∀ i, i < n → L.getD i false = true := fun i hi => by
      have h1 : ∀ j ∈ List.range n, ¬ (!L.getD j true) = true := List.countP_eq_zero.1 hc
      have h2 := h1 i (List.mem_range.2 hi)
      exact getD_up (by omega) (by simpa using h2)
    rw [Nat.zero_add, fr_congr (l' := fun j => decide (j < n)) fun j hj => ?_]
    · exact htail γ L w hs hall htl hC
    · by_cases hjn : j < n
      · rw [hall j hjn]; simp [hjn]
      · rw [getD_both (htl j (by omega) hj)]; simp [hjn]
  | f + 1, γ, L, w, hs, hcl, htl, hc, hC => by
    rw [show f + 1 + g = (f + g) + 1 by omega]
    -- the least that has not come up may come up
    have hex : ∃ i, i < n ∧ L.getD i true = false := by
      have hpos : 0 < (List.range n).countP fun i => !L.getD i true := by unfold cnt at hc; omega
      obtain ⟨i, hi, h1⟩ := List.countP_pos_iff.1 hpos
      exact ⟨i, List.mem_range.1 hi, by simpa using h1⟩
    have hready : ∃ i, i ∈ Region.ready .any ops L := by
      obtain ⟨i, hi, hun⟩ := hex
      induction i using Nat.strongRecOn with
      | _ i ih =>
        by_cases hless : ∃ j, j < i ∧ L.getD j true = false
        · obtain ⟨j, hj, hjun⟩ := hless
          exact ih j hj (by omega) hjun
        · have hio : i < ops.size := by omega
          refine ⟨i, mem_ready.2 ⟨hun, ops[i], Array.getElem?_eq_getElem hio, fun e he hb => ?_⟩⟩
          have hlt := tidy_edge ht (Array.getElem?_eq_getElem hio) e he hb
          refine getD_up (by omega) ?_
          cases h0 : L.getD e.on true with
          | true => rfl
          | false => exact absurd ⟨e.on, hlt, h0⟩ hless
    obtain ⟨i0, hi0, hun0⟩ := hex
    refine ⟨fun h0 => (by obtain ⟨i, hi⟩ := hready; rw [h0] at hi; cases hi), fun i hi => ?_⟩
    have hin : i < n := hsink L hs hcl htl i0 hi0 hun0 i hi
    obtain ⟨hun, o, ho, _⟩ := mem_ready.1 hi
    have hio : i < ops.size := by omega
    obtain ⟨hex1, hex2⟩ := exec_same (vals := vals γ) (n := ops.size) (a := a0) ht ho hcl hi
    have hst := hstep i o hin ho γ L w hs hcl hi hC
    have hnext : ∀ γ' w', (∀ j, L.getD j false = true → vals γ j = vals γ' j) → C γ' (L.setIfInBounds i true) w' → wpAny P .any ops Q (f + g) (L.setIfInBounds i true) ((fr ops (vals γ) (fun j => L.getD j false) ops.size a0).put o.dst (vals γ' i)) w' := fun γ' w' hag hC' => by
      have ih := head_anyE (g := g) (Q := Q) ht hn hstep hsink htail f γ' (L.setIfInBounds i true) w' (by simpa using hs) (closed_set hcl hi) (fun t h1 h2 => by rw [getD_set_ne true (by omega)]; exact htl t h1 h2)
        (by
          have h1 : cnt n (L.setIfInBounds i true) + 1 = cnt n L := by
            refine countP_one (i := i) (by simpa using hun) ?_ (fun j hj => by rw [getD_set_ne true (Ne.symm hj)]) List.nodup_range (List.mem_range.2 hin)
            simp [show i < L.size by omega]
          omega) hC'
      rw [fr_congr (l' := fun j => L.getD j false || j == i) fun j _ => ?_, fr_set ht (getD_both hun) hio, ← fr_vals fun j _ hj => hag j hj] at ih
      · unfold dstAt at ih; rw [ho] at ih; exact ih
      · by_cases e : j = i
        · subst e; simp [show j < L.size by omega]
        · have : (j == i) = false := by simpa using e
          rw [getD_set_ne false (Ne.symm e), this, Bool.or_false]
    unfold wpOp
    simp only [ho]
    rcases hst with ⟨hw, hg⟩ | ⟨hw, γ', hag, hv, hC'⟩
    · rw [hex2, if_pos hw]
      refine .inl (wp_of_givesE (R := fun v w' => ∃ γ', (∀ j, L.getD j false = true → vals γ j = vals γ' j) ∧ vals γ' i = v ∧ C γ' (L.setIfInBounds i true) w') ?_ fun v w' ⟨γ', hag, hv, hC'⟩ => by rw [← hv]; exact hnext γ' w' hag hC')
      unfold GivesE at hg ⊢
      rw [hex1]; exact hg
    · rw [hex2, hw, if_neg (by simp)]
      rw [← hv]
      exact hnext γ' w hag hC'

theorem region_coreE {id : Nat} {Q : Exit → Act → World → Prop} {Γ : Type} {C : Γ → Array Bool → World → Prop} {a : Act} {w : World} {l : List Oper} (n : Nat) (hm : P.follows .mixedOrders = true) (ht : tidy l.toArray = true) (hB : tailB l.toArray n = true)
    (γ0 : Γ) (hC : C γ0 (Array.replicate l.length false) w.drew) (vals : Γ → Nat → Value)
    (hs : ∀ i o, (l.take n)[i]? = some o → ∀ γ L w, L.size = l.length → i ∈ Region.ready .any l.toArray L → C γ L w →
      ((Region.wanted o (yielded l.toArray (lexF (l.take n) (vals γ) i a).tmps) = true ∧ GivesE P o (lexF (l.take n) (vals γ) i a) w (fun v w' => ∃ γ', (∀ j, L.getD j false = true → vals γ j = vals γ' j) ∧ vals γ' i = v ∧ C γ' (L.setIfInBounds i true) w')) ∨
      (Region.wanted o (yielded l.toArray (lexF (l.take n) (vals γ) i a).tmps) = false ∧ ∃ γ', (∀ j, L.getD j false = true → vals γ j = vals γ' j) ∧ vals γ' i = undef ∧ C γ' (L.setIfInBounds i true) w)))
    (hq : ∀ γ L w', (∀ i, i < n → L.getD i false = true) → C γ L w' → wpList P l.toArray Q (l.drop n) (lexF (l.take n) (vals γ) (l.take n).length a) w') : (Code.region id l.toArray true).wp P Q a w := by
  refine wp_region_any hm ?_
  have hn : n ≤ l.toArray.size := by
    simp only [tailB, Bool.or_eq_true, Bool.and_eq_true, decide_eq_true_eq] at hB
    rcases hB with h | h <;> omega
  have hlen : (l.take n).length = n := by rw [List.length_take]; simp at hn; omega
  simp only [hlen] at hq
  have hfr : ∀ (γ : Γ) i, i ≤ n → lexF (l.take n) (vals γ) i a = fr l.toArray (vals γ) (fun j => decide (j < i)) l.toArray.size a := fun γ i hi => by
    have := lexF_fr (ops := l.toArray) (vals := vals γ) (a := a) hn i hi
    simpa using this
  have H := head_anyE (P := P) (ops := l.toArray) (n := n) (g := l.toArray.size - n) (Q := Q) (vals := vals) (C := C) (a0 := a) ht hn
    (fun k o hk ho γ L w' hsz _ hr hC' => by
      have hko : (l.take n)[k]? = some o := by rw [List.getElem?_take_of_lt hk]; simpa using ho
      have := hs k o hko γ L w' (by simpa using hsz) hr hC'
      rwa [hfr γ k (by omega)] at this)
    (fun L hL hcl htl i hi hun t hr => by
      obtain ⟨hunt, o, ho, _⟩ := mem_ready.1 hr
      have hto : t < l.toArray.size := (Array.getElem?_eq_some_iff.1 ho).1
      simp only [tailB, Bool.or_eq_true, Bool.and_eq_true, decide_eq_true_eq] at hB
      rcases hB with hB | ⟨⟨⟨hB1, hB2⟩, hB3⟩, _⟩
      · omega
      · rcases Nat.lt_or_ge t n with h | h
        · exact h
        · exact absurd hr (tail_waits hB2 hB3 hB1 ⟨hL, hcl, htl⟩ _ i rfl hi hun t h))
    (fun γ L w' hL hall htl hC' => by
      rw [← hfr γ n (Nat.le_refl n)]
      have hlist := hq γ L w' hall hC'
      have hLe : L = tailL n (l.toArray.size - n) := by
        apply Array.ext_getElem?
        intro j
        unfold tailL
        rw [show ((List.replicate n true ++ List.replicate (l.toArray.size - n) false).toArray)[j]? = (List.replicate n true ++ List.replicate (l.toArray.size - n) false)[j]? from List.getElem?_toArray .., List.getElem?_append]
        simp only [List.length_replicate]
        by_cases hj : j < n
        · have := hall j hj
          rw [if_pos hj]
          simp [show j < L.size by omega] at this
          simp [hj, show j < L.size by omega, this]
        · rw [if_neg hj]
          by_cases hj2 : j < l.toArray.size
          · have := htl j (by omega) hj2
            simp [show j < L.size by omega] at this
            rw [Array.getElem?_eq_getElem (by omega), this, List.getElem?_replicate, if_pos (by omega)]
          · rw [Array.getElem?_eq_none (by omega), List.getElem?_replicate, if_neg (by omega)]
      simp only [tailB, Bool.or_eq_true, Bool.and_eq_true, decide_eq_true_eq] at hB
      rcases hB with hB | ⟨⟨⟨hB1, hB2⟩, hB3⟩, hB4⟩
      · rw [show l.toArray.size - n = 0 by omega]
        have hd : l.drop n = [] := List.drop_eq_nil_of_le (by simp at hB; omega)
        rw [hd] at hlist
        refine ⟨?_, hlist⟩
        apply List.eq_nil_iff_forall_not_mem.2
        intro t hr
        obtain ⟨hunt, o, ho, _⟩ := mem_ready.1 hr
        have hto : t < l.toArray.size := (Array.getElem?_eq_some_iff.1 ho).1
        have := hall t (by omega)
        rw [getD_both hunt] at this
        cases this
      · have hdl : (l.drop n).length = l.toArray.size - n := by simp
        have := wpAny_of_seq (P := P) (ops := l.toArray) (md := .any) (Q' := Q) (l.drop n) n L _ w' (fun j => by simp [List.getElem?_drop]) (by rw [hdl, hLe]; exact hB4) hlist
        rwa [hdl] at this)
    (cnt n (Array.replicate l.toArray.size false)) γ0 (Array.replicate l.toArray.size false) w.drew (by simp) (fun j o _ hl => by rw [getD_replicate_false] at hl; cases hl)
    (fun t _ hts => getD_in (by simpa using hts) (getD_replicate_false _ _)) rfl (by simpa using hC)
  have hc : cnt n (Array.replicate l.toArray.size false) = n := by
    unfold cnt
    have : ∀ i ∈ List.range n, (!(Array.replicate l.toArray.size false).getD i true) = true := fun i hi => by
      have hi' := List.mem_range.1 hi
      have : i < l.length := by simp at hn; omega
      simp [this]
    rw [List.countP_eq_length.2 this, List.length_range]
  rw [hc, show n + (l.toArray.size - n) = l.toArray.size by omega] at H
  have hz : fr l.toArray (vals γ0) (fun j => (Array.replicate l.toArray.size false).getD j false) l.toArray.size a = a := by
    rw [fr_congr (l' := fun j => decide (j < 0)) fun j _ => by rw [getD_replicate_false]; simp]
    have := fr_stop (ops := l.toArray) (vals := vals γ0) (k := 0) l.toArray.size a
    rw [Nat.zero_add] at this
    exact this
  rw [hz] at H
  exact H

/-- The operations in the order of the text, the k-th first. -/
def wpE (P : Program) (ops : Array Oper) (S : Nat → Value → Prop) (D : Nat → (Nat → Value) → World → Prop) (K : Nat → (Nat → Value) → World → World → Prop) (C : (Nat → Bool) → World → Prop) (Q : (Nat → Value) → Act → Prop) : Nat → (Nat → Value) → List Oper → Act → Prop
  | _, vs, [], a => Q vs a
  | k, vs, o :: rest, a => ((Region.wanted o (yielded ops a.tmps) = true ∧ ∀ d w, d k = false → C d w → (∀ j, Region.waitsFor .any ops k j = true → D j vs w) →
      GivesE P o a w fun v w' => S k v ∧ C (upB d k) w' ∧ K k vs w w' ∧ D k (updV vs k v) w') ∨
      (Region.wanted o (yielded ops a.tmps) = false ∧ S k undef ∧ (∀ d w, C d w → C (upB d k) w) ∧ ∀ w, D k (updV vs k undef) w)) ∧ (S k (vs k) → wpE P ops S D K C Q (k + 1) vs rest (a.put o.dst (vs k)))
end
end Go.Proofs.Ytijgbbeplojinaa
set_option maxRecDepth 100000
namespace Go.Proofs.Ytijgbbeplojinaa
open Go.ChangeShapes Go.WideShapes Go.ChangeAt Go.RowKit
attribute [local go_sem] Gives GivesE
section
variable {a : Act} {w : World} {dst : Option Tmp} {ty r : TypeId} {pos : String} {after : Array Edge} {x y : Operand} {f g : Nat → Nat} {gd : Option (Nat × Bool)} {R : Value → World → Prop} {T : TypeId} {n : Nat}
end
section
variable {ops : Array Oper} {a : Act} {rest : List Oper} {dst : Option Tmp} {ty r : TypeId} {pos : String} {after : Array Edge} {x y : Operand} {f g : Nat → Nat} {gd : Option (Nat × Bool)} {C : World → Prop} {Qk : Act → Prop} {T : TypeId} {n : Nat}
end
namespace DvP
end DvP
end Go.Proofs.Ytijgbbeplojinaa
set_option maxRecDepth 100000
namespace Go.Proofs.Ytijgbbeplojinaa
open Go.ChangeShapes Go.WideShapes Go.ChangeAt Go.RowKit
attribute [local go_sem] GivesE
/-- What is known of a value: its kind, what a world holds of it, one of the kind. -/
structure Sp where
  S : Value → Prop
  D : Value → World → Prop
  v0 : Value
structure Sp.ok (c : Sp) : Prop where
  some : c.S c.v0
  keep : ∀ v w1 w2, c.D v w1 → Below w1.heap.size w1 w2 → c.D v w2
def lkSp : List (Nat × Sp) → Nat → Option Sp
  | [], _ => none
  | (p, c) :: r, j => if j = p then some c else lkSp r j
def yS (fx : List (Option Value)) (sp : List (Nat × Sp)) (j : Nat) (v : Value) : Prop := match lkSp sp j with
  | some c => c.S v
  | none => match fx[j]? with
    | some (some u) => v = u
    | _ => True
def yV (fx : List (Option Value)) (sp : List (Nat × Sp)) (j : Nat) : Value := match lkSp sp j with
  | some c => c.v0
  | none => match fx[j]? with
    | some (some u) => u
    | _ => undef
theorem lk_mem : ∀ {sp : List (Nat × Sp)} {j : Nat} {c : Sp}, lkSp sp j = some c → ∃ p, (p, c) ∈ sp
  | [], _, _, h => by cases h
  | (p, d) :: r, j, c, h => by
    unfold lkSp at h
    split at h
    · cases h; exact ⟨p, List.mem_cons_self⟩
    · obtain ⟨q, hq⟩ := lk_mem h
      exact ⟨q, List.mem_cons_of_mem _ hq⟩
theorem yS_ok (fx : List (Option Value)) {sp : List (Nat × Sp)} (h : ∀ x ∈ sp, x.2.ok) (j : Nat) : yS fx sp j (yV fx sp j) := by
  unfold yS yV
  split
  · rename_i c hc
    obtain ⟨p, hp⟩ := lk_mem hc
    exact (h _ hp).some
  · split
    · rfl
    · trivial
def yD (sp : List (Nat × Sp)) (j : Nat) (vs : Nat → Value) (w : World) : Prop := match lkSp sp j with
  | some c => c.D (vs j) w
  | none => True
end Go.Proofs.Ytijgbbeplojinaa
set_option maxRecDepth 100000
namespace Go.Proofs.Ytijgbbeplojinaa
open Go.ChangeShapes Go.WideShapes Go.ChangeAt Go.RowKit
section
variable {α : Type} {k : Nat} {en : α → List Value} {E L : TypeId}
theorem run_lit1 (hE : EltX E k en) (hu : Try.prog.underlying L = some (.slice E)) (x : α) {v : Value} (hv : v.cells.toList = en x) (hk : k ≤ 1000) (w : World) :
    (Instr.buildSlice L 1 #[(0, v)]).run Try.prog w = .ok (.slice (some ⟨w.heap.size, 0, none⟩) 1 1) (w.alloc (.cells (en x).toArray E)) := by
  obtain ⟨ie, z, hi, hz, h1, h2, h3⟩ := hE.info
  refine run_buildSlice w L E 1 _ _ ie z hu hi hz (by rw [h1]; omega) (by rw [h1]; have := hE.pos; omega) ?_
  have hcs : v.cells.size = k := by rw [← Array.length_toList, hv, hE.len]
  have := fill_consec (place := fun i => some (i * ie.size, ie.size)) [v] [(0, k)] [] (((Array.range (1 * ie.size)).map (z.cells[· % z.cells.size]!)).toList) 0 ⟨rfl, trivial⟩ (by simp [hcs]) (by simp [h1]) (fun j hj => by
    have : j = 0 := by simp at hj; exact hj
    subst this
    simp [h1])
  simp only [List.nil_append, List.map_cons, List.map_nil, List.sum_cons, List.sum_nil, Nat.add_zero, List.flatMap_cons, List.flatMap_nil, List.append_nil, hv] at this
  rw [List.drop_eq_nil_of_le (by simp [h1]), List.append_nil, Array.toArray_toList] at this
  exact this
/-- What such a literal is. -/
theorem sli_lit1 {S : Nat → Prop} (hE : EltX E k en) (x : α) (w : World) (hS : S w.heap.size) : Sli k en S (w.alloc (.cells (en x).toArray E)) (some ⟨w.heap.size, 0, none⟩) [x] 1 1 where
  len := rfl
  cap := Nat.le_refl _
  max := by unfold maxLen; omega
  none e := by cases e
  lst _ := ⟨w.heap.size, 0, rfl, hS, by simp, fun i y hi j u hj => by
    have hb : Blk (w.alloc (.cells (en x).toArray E)) w.heap.size E (en x).toArray := Blk.new _ _ _
    cases i with
    | zero =>
      simp only [List.getElem?_cons_zero, Option.some.injEq] at hi
      subst hi
      rw [Nat.zero_add, Nat.zero_mul, Nat.zero_add, hb.cell]
      simpa using hj
    | succ i => simp at hi⟩
variable {ops : Array Oper} {Q : Exit → Act → World → Prop} {a : Act} {w : World} {rest : List Oper} {dst : Option Tmp} {ty : TypeId} {pos : String} {after : Array Edge} {o : Operand} {x : α} {v : Value}
theorem wlit1 (hE : EltX E k en) (hu : Try.prog.underlying L = some (.slice E)) (hk : k ≤ 1000) (ho : a.eval o = v) (hv : v.cells.toList = en x)
    (h : wpList Try.prog ops Q rest (a.put dst (.slice (some ⟨w.heap.size, 0, none⟩) 1 1)) (w.alloc (.cells (en x).toArray E))) :
    wpList Try.prog ops Q (⟨dst, .buildSlice L 1 #[(0, o)], ty, pos, after, none⟩ :: rest) a w := by
  have hm : (#[(0, o)] : Array (Nat × Operand)).map (fun (i, x) => (i, a.eval x)) = #[(0, v)] := by
    simp only [List.map_toArray, List.map_cons, List.map_nil, ho]
  refine wpList_plain rfl fun K hK => ?_
  unfold Oper.wp execOp
  simp only [Sem.run_bind, hm, run_lit1 hE hu x hv hk w, Result.andThen_ok, Sem.run_pure]
  exact hK _ _ h
theorem gE_lit1 {gd : Option (Nat × Bool)} {R : Value → World → Prop} (hE : EltX E k en) (hu : Try.prog.underlying L = some (.slice E)) (hk : k ≤ 1000) (ho : a.eval o = v) (hv : v.cells.toList = en x)
    (h : R (.slice (some ⟨w.heap.size, 0, none⟩) 1 1) (w.alloc (.cells (en x).toArray E))) : GivesE Try.prog ⟨dst, .buildSlice L 1 #[(0, o)], ty, pos, after, gd⟩ a w R := by
  have hm : (#[(0, o)] : Array (Nat × Operand)).map (fun (i, x) => (i, a.eval x)) = #[(0, v)] := by
    simp only [List.map_toArray, List.map_cons, List.map_nil, ho]
  unfold GivesE execOp
  simp only [Sem.run_bind, hm, run_lit1 hE hu x hv hk w, Result.andThen_ok, Sem.run_pure]
  exact h
/-- A slice of these elements, wherever it lies in blocks of S. -/
def spX (k : Nat) (en : α → List Value) (S : Nat → Prop) (l : List α) : Sp := ⟨fun v => ∃ (A : Option Addr) (c : Nat), v = .slice A l.length c, fun v w => ∃ (A : Option Addr) (c : Nat), v = .slice A l.length c ∧ Sli k en S w A l l.length c, .slice none l.length 0⟩
end
end Go.Proofs.Ytijgbbeplojinaa
set_option maxRecDepth 100000
namespace Go.Proofs.Ytijgbbeplojinaa
open Go.ChangeShapes Go.WideShapes Go.ChangeAt Go.RowKit
section
variable {α : Type} {k : Nat} {en : α → List Value} {E L ty : TypeId} {S T : Nat → Prop} {w : World} {A B : Option Addr} {l m : List α}
theorem flat_read (hE : EltX E k en) {n c : Nat} {ad : Addr} (h : Sli k en S w (some ad) l n c) : ∀ j u, (l.flatMap en)[j]? = some u → w.cell? (ad.add j) = some u := fun j u hj => by
  have hjl := (List.getElem?_eq_some_iff.1 hj).1
  rw [flat_len hE.len] at hjl
  have hq : j / k < l.length := Nat.div_lt_of_lt_mul (by rw [Nat.mul_comm]; exact hjl)
  have h4 := flat_at hE.len l (j / k) (j % k) l[j / k] (List.getElem?_eq_getElem hq) (Nat.mod_lt _ hE.pos)
  rw [show j / k * k + j % k = j by rw [Nat.mul_comm]; exact Nat.div_add_mod j k, hj] at h4
  obtain ⟨b, o, e, _, _, hr⟩ := h.lst (Nat.lt_of_le_of_lt (Nat.zero_le _) hq)
  obtain rfl : ad = ⟨b, o, none⟩ := Option.some.inj e
  have h5 := hr (j / k) l[j / k] (List.getElem?_eq_getElem hq) (j % k) u h4.symm
  rw [Addr.add_mid]
  rwa [show o + j / k * k + j % k = o + j by have := Nat.div_add_mod j k; rw [Nat.mul_comm] at this; omega] at h5
variable {a : Act} {dst : Option Tmp} {pos : String} {after : Array Edge} {gd : Option (Nat × Bool)} {R : Value → World → Prop} {o1 o2 : Operand}
end
end Go.Proofs.Ytijgbbeplojinaa
set_option maxRecDepth 100000
namespace Go.Proofs.Ytijgbbeplojinaa
open Go.RowKit
section
variable {P : Program} {ops : Array Oper}
/-- The operations in the order of the text, the k-th first. -/
def wpC (P : Program) (ops : Array Oper) (S : Nat → Value → Prop) (C : (Nat → Bool) → (Nat → Value) → World → Prop) (Q : (Nat → Value) → Act → Prop) : Nat → (Nat → Value) → List Oper → Act → Prop
  | _, vs, [], a => Q vs a
  | k, vs, o :: rest, a => ((Region.wanted o (yielded ops a.tmps) = true ∧ ∀ d w, d k = false → (∀ j, Region.waitsFor .any ops j k = true → d j = false) → (∀ j, Region.waitsFor .any ops k j = true → d j = true) → C d vs w →
      GivesE P o a w fun v w' => S k v ∧ C (upB d k) (updV vs k v) w') ∨
      (Region.wanted o (yielded ops a.tmps) = false ∧ S k undef ∧ (∀ d w, C d vs w → C (upB d k) (updV vs k undef) w))) ∧ (S k (vs k) → wpC P ops S C Q (k + 1) vs rest (a.put o.dst (vs k)))
theorem wpC_at {S : Nat → Value → Prop} {C : (Nat → Bool) → (Nat → Value) → World → Prop} {Qk : (Nat → Value) → Act → Prop} {vs : Nat → Value} (hS : ∀ j, S j (vs j)) : ∀ (l : List Oper) (k : Nat) (a : Act), wpC P ops S C Qk k vs l a →
    Qk vs (lexF l (fun i => vs (k + i)) l.length a) ∧ ∀ i o, l[i]? = some o →
      ((Region.wanted o (yielded ops (lexF l (fun i => vs (k + i)) i a).tmps) = true ∧ ∀ d w, d (k + i) = false → (∀ j, Region.waitsFor .any ops j (k + i) = true → d j = false) → (∀ j, Region.waitsFor .any ops (k + i) j = true → d j = true) → C d vs w →
        GivesE P o (lexF l (fun i => vs (k + i)) i a) w fun v w' => S (k + i) v ∧ C (upB d (k + i)) (updV vs (k + i) v) w') ∨
      (Region.wanted o (yielded ops (lexF l (fun i => vs (k + i)) i a).tmps) = false ∧ S (k + i) undef ∧ (∀ d w, C d vs w → C (upB d (k + i)) (updV vs (k + i) undef) w)))
  | [], k, a, h => ⟨h, fun i o hi => by simp at hi⟩
  | o :: l, k, a, h => by
    obtain ⟨h1, h2⟩ := h
    obtain ⟨hq, hs⟩ := wpC_at hS l (k + 1) _ (h2 (hS k))
    have e : (fun i => vs (k + 1 + i)) = fun i => vs (k + (i + 1)) := funext fun i => by rw [show k + 1 + i = k + (i + 1) by omega]
    rw [e] at hq hs
    refine ⟨?_, fun i o' hi => ?_⟩
    · rw [List.length_cons, lexF_cons]; exact hq
    · cases i with
      | zero =>
        simp only [List.getElem?_cons_zero, Option.some.injEq] at hi
        subst hi
        exact h1
      | succ i =>
        rw [lexF_cons, show k + (i + 1) = k + 1 + i by omega]
        exact hs i o' (by simpa using hi)
theorem wp_region_c {id : Nat} {Q : Exit → Act → World → Prop} {C : (Nat → Bool) → (Nat → Value) → World → Prop} {S : Nat → Value → Prop} {a : Act} {w : World} {l : List Oper} (n : Nat)
    (hm : P.follows .mixedOrders = true) (ht : tidy l.toArray = true) (hB : tailB l.toArray n = true)
    (v0 : Nat → Value) (h0 : ∀ j, S j (v0 j)) (hC : C (fun _ => false) v0 w.drew)
    (h : ∀ vs : Nat → Value, wpC P l.toArray S C (fun vs a' => ∀ d w', (∀ k, k < n → d k = true) → C d vs w' → wpList P l.toArray Q (l.drop n) a' w') 0 vs (l.take n) a) : (Code.region id l.toArray true).wp P Q a w := by
  refine region_coreE (Γ := {vs : Nat → Value // ∀ j, S j (vs j)}) (C := fun γ L w' => C (fun j => L.getD j false) γ.1 w' ∧ Closed l.toArray L) n hm ht hB ⟨v0, h0⟩
    ⟨by rw [show (fun j => (Array.replicate l.length false).getD j false) = fun _ => false from funext fun j => getD_replicate_false _ j]; exact hC, (fun j o _ hl => by rw [getD_replicate_false] at hl; cases hl)⟩ (fun γ => γ.1) ?_ ?_
  · intro i o hi γ L w' hsz hr ⟨hC', hcl⟩
    have hun := getD_both (mem_ready.1 hr).1
    have hlt : i < L.size := by
      obtain ⟨o', ho', _⟩ := (mem_ready.1 hr).2
      have := (Array.getElem?_eq_some_iff.1 ho').1
      simp at this; omega
    have hup : (fun j => (L.setIfInBounds i true).getD j false) = upB (fun j => L.getD j false) i := funext fun j => by
      unfold upB
      by_cases e : j = i
      · subst e; rw [if_pos rfl]; simp [hlt]
      · rw [if_neg e, getD_set_ne false (Ne.symm e)]
    have hcl2 := closed_set hcl hr
    have key := (wpC_at γ.2 (l.take n) 0 a (h γ.1)).2 i o hi
    simp only [Nat.zero_add] at key
    have hwait : ∀ j, Region.waitsFor .any l.toArray i j = true → L.getD j false = true := fun j hj => waits_ready hr hj
    have hnext : ∀ j, Region.waitsFor .any l.toArray j i = true → L.getD j false = false := fun j hj => by
      cases hx : L.getD j false with
      | false => rfl
      | true =>
        have := waits_closed hcl hx hj
        rw [hun] at this
        cases this
    have upd : ∀ v, S i v → ∀ j, S j (updV γ.1 i v j) := fun v hv j => by
      by_cases e : j = i
      · subst e; rw [updV_self]; exact hv
      · rw [updV_ne _ _ e]; exact γ.2 j
    have keep : ∀ v j, L.getD j false = true → γ.1 j = updV γ.1 i v j := fun v j hj => by
      have : j ≠ i := fun e => by subst e; rw [hun] at hj; cases hj
      rw [updV_ne _ _ this]
    rcases key with ⟨k1, k2⟩ | ⟨k1, k2, k3⟩
    · refine .inl ⟨k1, givesE_mono (k2 _ w' hun hnext hwait hC') fun v w2 ⟨h1, h2⟩ => ⟨⟨updV γ.1 i v, upd v h1⟩, keep v, updV_self _ _ _, ?_, hcl2⟩⟩
      rw [hup]; exact h2
    · refine .inr ⟨k1, ⟨updV γ.1 i undef, upd undef k2⟩, keep undef, updV_self _ _ _, ?_, hcl2⟩
      rw [hup]; exact k3 _ _ hC'
  · intro γ L w' hall ⟨hC', _⟩
    have key := (wpC_at γ.2 (l.take n) 0 a (h γ.1)).1
    have ez : (fun i => γ.1 (0 + i)) = γ.1 := funext fun i => by rw [Nat.zero_add]
    rw [ez] at key
    exact key _ w' hall hC'
end
open Go.ChangeShapes Go.WideShapes Go.ChangeAt
/-- A slice of so many elements. -/
def kSl (m : Nat) : Sp := ⟨fun v => ∃ (A : Option Addr) (c : Nat), v = .slice A m c, fun _ _ => True, .slice none m 0⟩
theorem kSl_ok (m : Nat) : (kSl m).ok := ⟨⟨none, 0, rfl⟩, fun _ _ _ _ _ => trivial⟩
/-- A map. -/
def kMp : Sp := ⟨fun v => ∃ r : Nat, v = .map (some r), fun _ _ => True, .map (some 0)⟩
section
variable {α : Type} {k : Nat} {en : α → List Value} {E L : TypeId} {S : Nat → Prop} {w : World} {a : Act} {dst : Option Tmp} {ty : TypeId} {pos : String} {after : Array Edge} {gd : Option (Nat × Bool)} {R : Value → World → Prop} {o1 o2 : Operand} {v : Value} {l m : List α} {A : Option Addr} {n cap B : Nat}
/-- An append's result lies where the slice lay, or anew. -/
theorem run_appX_where (hE : EltX E k en) (hu : Try.prog.underlying L = some (.slice E)) (hown : OwnX E k en w B v l) (hm : Sli k en S w A m n cap) (hsz : l.length + n ≤ 1000000) (hk : k ≤ 1000) {v' : Value} {w' : World}
    (hr : (Builtin.append_ #[L, L] ty #[v, .slice A n cap]).run Try.prog w = .ok v' w') : v'.ownBlock = v.ownBlock ∨ v'.ownBlock = some w.heap.size := by
  obtain ⟨i, z, hi, hz, h1, h2, h3⟩ := hE.info
  cases A with
  | none =>
    obtain ⟨rfl, rfl⟩ := hm.none rfl
    rw [run_append_owned_none (P := Try.prog) w B L ty E i k hu hi v l.length _ hown] at hr
    cases hr
    exact .inl rfl
  | some ad =>
    have hbytes : (l.length + n) * i.bytes ≤ 140737488355328 := Nat.le_trans (Nat.mul_le_mul hsz (Nat.le_trans h2 (show 16 * k + 16 ≤ 16016 by omega))) (by omega)
    have hl1 : (m.flatMap en).length = n * i.size := by rw [flat_len hE.len, hm.len, h1]
    have hne := flat_read hE hm
    have hone : ∀ u ∈ m.flatMap en, u.oneCell' = true := fun u hu => by obtain ⟨x, _, hx⟩ := List.mem_flatMap.1 hu; exact hE.one x u hx
    rcases hown.2 with ⟨rfl, h0⟩ | ⟨g, c, cur, rfl, hB, hg, hnc, hcm, hcs, ht⟩
    · by_cases hn0 : n = 0
      · subst hn0
        have hn : m = [] := List.eq_nil_of_length_eq_zero hm.len
        subst hn
        left
        have hrun : (Builtin.append_ #[L, L] ty #[.slice none 0 0, .slice (some ad) 0 cap]).run Try.prog w = .ok (.slice none 0 0) w := by
          simp [Builtin.append_, run_underlying hu, sizeOf, typeInfo, hi, Builtin.lenOf, Builtin.firstCells, loadCells, loadCellsFrom]
        rw [hrun] at hr
        cases hr
        rfl
      · right
        rw [h0, Nat.zero_add] at hbytes
        have hrun := run_append_nil (P := Try.prog) w L ty E i z hu hi hz ad n cap _ hl1 hne (by omega) (by omega) (by omega)
        rw [hrun] at hr
        cases hr
        rfl
    · by_cases hroom : l.length + n ≤ c
      · left
        have hrun := run_append_room (P := Try.prog) w L ty E i hu hi g l.length c cur hg ad n cap _ hl1 hne hone hroom (by
          rw [h1, flat_len hE.len, hm.len, hcs, ← Nat.add_mul]; exact Nat.mul_le_mul_right k hroom)
        rw [hrun] at hr
        cases hr
        rfl
      · right
        have hown' : w.ownsRow B E i.size (.slice (some ⟨g, 0, none⟩) l.length c) l.length (l.flatMap en) := by rw [h1]; exact hown
        have holds : ∀ j u, (l.flatMap en)[j]? = some u → w.cell? ((⟨g, 0, none⟩ : Addr).add j) = some u := hown'.cells (g := g) rfl
        have hrun := run_append_grow (P := Try.prog) w L ty E i z hu hi hz ⟨g, 0, none⟩ l.length c (l.flatMap en) (by rw [flat_len hE.len, h1]) holds ad n cap _ hl1 hne (by omega) (by omega) (growslice_fits (by omega) hbytes)
        rw [hrun] at hr
        cases hr
        rfl
theorem gE_appW (hE : EltX E k en) (hu : Try.prog.underlying L = some (.slice E)) (hx : a.eval o1 = v) (hy : a.eval o2 = .slice A n cap) (hown : OwnX E k en w B v l) (hm : Sli k en S w A m n cap) (hsz : l.length + n ≤ 1000000) (hk : k ≤ 1000) (hB : B ≤ w.heap.size)
    (hR : ∀ v' w', OwnX E k en w' B v' (l ++ m) → w.grownBy w' v.ownBlock → (v'.ownBlock = v.ownBlock ∨ v'.ownBlock = some w.heap.size) → R v' w') :
    GivesE Try.prog ⟨dst, .call { callee := .builtin .append, args := #[o1, o2], argTypes := #[L, L] }, ty, pos, after, gd⟩ a w R := by
  obtain ⟨v', w', hr, h1, h2⟩ := run_appX (ty := ty) hE hu hown hm hsz hk hB
  have h3 := run_appX_where hE hu hown hm hsz hk hr
  unfold GivesE execOp
  simp only [resolve, invoke, builtin, Sem.run_bind, Sem.run_pure, Result.andThen_ok, List.map_toArray, List.map_cons, List.map_nil, hx, hy, hr]
  exact hR v' w' h1 h2 h3
end
/-- What holds in the midst of an append of one element to a slice of the member's own. -/
structure ApC {α : Type} (E : TypeId) (k : Nat) (en : α → List Value) (w0 : World) (vl : Value) (l : List α) (x : α) (d8 d9 : Bool) (v8 v9 : Value) (w' : World) : Prop where
  t : Turn (fun b => vl.ownBlock = some b) w0 w'
  b : d9 = false → Below w0.heap.size w0 w'
  lit : d8 = true → d9 = false → ∃ A c, v8 = .slice A 1 c ∧ Sli k en (fun b => w0.heap.size ≤ b) w' A [x] 1 c
  own : d9 = true → OwnX E k en w' 0 v9 (l ++ [x]) ∧ ∀ b, v9.ownBlock = some b → vl.ownBlock = some b ∨ w0.heap.size ≤ b
end Go.Proofs.Ytijgbbeplojinaa
set_option maxRecDepth 100000
namespace Go.Proofs.Ytijgbbeplojinaa
open Go.ChangeShapes Go.WideShapes Go.ChangeAt Go.RowKit
section
variable {ops : Array Oper} {Q : Exit → Act → World → Prop} {a : Act} {w : World} {rest : List Oper} {dst : Option Tmp} {ty : TypeId} {pos : String} {after : Array Edge} {n : Nat} {f : Nat → Nat} {T : TypeId}
end
end Go.Proofs.Ytijgbbeplojinaa
set_option maxRecDepth 100000
namespace Go.Proofs.Ytijgbbeplojinaa
open Go.ChangeShapes Go.WideShapes Go.ChangeAt Go.RowKit
section
variable {T : TypeId} {m N o : Nat} {F G : Nat → Nat}
end
end Go.Proofs.Ytijgbbeplojinaa
set_option maxRecDepth 100000
namespace Go.Proofs.Ytijgbbeplojinaa
open Go.ChangeShapes Go.WideShapes Go.ChangeAt Go.RowKit
attribute [local go_sem] Gives GivesE
namespace ClP
/-- A count and a label. -/
abbrev Held := Nat × (Nat → Nat)
def zero : Nat → Nat := fun _ => 0
def ceL (h : Held) : List Value := .int .u64 (h.1 : Nat) :: (ar 32 h.2).toList
/-- Are two the same. -/
def ceq (a b : Held) : Bool := decide (a.1 = b.1) && eqA 32 a.2 b.2
end ClP
end Go.Proofs.Ytijgbbeplojinaa
set_option maxRecDepth 100000
namespace Go.Proofs.Ytijgbbeplojinaa
open Go.ChangeShapes Go.WideShapes Go.ChangeAt Go.RowKit
section
variable {α : Type} {E L : TypeId} {k : Nat} {en : α → List Value} {w : World} {g cap : Nat} {l : List α}
variable {ops : Array Oper} {Q : Exit → Act → World → Prop} {a : Act} {rest : List Oper} {dst : Option Tmp} {ty : TypeId} {pos : String} {after : Array Edge} {x : Operand}
end
section
variable {ops : Array Oper} {Q : Exit → Act → World → Prop} {a : Act} {w : World} {rest : List Oper} {dst : Option Tmp} {ty T : TypeId} {pos : String} {after : Array Edge} {z cs : Array Value} {g : Nat} {t : TypeId}
/-- A new variable of any row. -/
theorem alZ' (hz : ∀ w, (zeroValue T).run Try.prog w = .ok (.agg z) w) (h : wpList Try.prog ops Q rest (a.put dst (.pointer (some ⟨w.heap.size, 0, none⟩))) (w.alloc (.cells z T))) :
    wpList Try.prog ops Q (⟨dst, .alloc T, ty, pos, after, none⟩ :: rest) a w := by
  have hr : (Instr.alloc T true (.tuple #[])).run Try.prog w = .ok (.pointer (some ⟨w.heap.size, 0, none⟩)) (w.alloc (.cells z T)) := by
    simp [Instr.alloc, Sem.run_bind, hz w, newVar, newRow, Value.cells]
  refine wpList_plain rfl fun K hK => ?_
  unfold Oper.wp execOp
  simp only [Sem.run_bind, hr, Result.andThen_ok, Sem.run_pure]
  exact hK _ _ h
theorem ret_row' {fn : Func} {R : Ending → World → Prop} {p : Tmp} (hT : RowT T cs.size) (hr : fn.results = #[.cell p T]) (hp : a.tmps.getD p undef = .pointer (some ⟨g, 0, none⟩)) (hdf : a.defers = [])
    (hb : Blk w g t cs) (hR : R (.returned (.agg cs)) w) : bodyPost Try.prog fn R .ret a w := by
  obtain ⟨d, h1, h2⟩ := hT.desc
  exact ret_row hr hb h1 h2 hT.size hp hdf hR
end
end Go.Proofs.Ytijgbbeplojinaa
set_option maxRecDepth 100000
namespace Go.Proofs.Ytijgbbeplojinaa
open Go.ChangeShapes Go.WideShapes Go.ChangeAt Go.RowKit
attribute [local go_sem] Gives GivesE
namespace ClP
def rcF (c : Nat) (l : Nat → Nat) (v : Value) (j : Nat) : Value := if j = 0 then .int .u64 (c : Nat) else if j = 33 then v else .int .u8 (l (j - 1) : Nat)
def rcV (c : Nat) (l : Nat → Nat) (v : Value) : Array Value := row 34 (rcF c l v)
section
variable {w : World} {g c : Nat} {l : Nat → Nat} {v : Value} {t : TypeId}
end
section
variable {ops : Array Oper} {Q : Exit → Act → World → Prop} {a : Act} {w : World} {rest : List Oper} {dst : Option Tmp} {ty : TypeId} {pos : String} {after : Array Edge} {x y z : Operand} {c n k : Nat} {l : Nat → Nat} {A : Option Addr} {C : World → Prop} {Qk : Act → Prop} {gd : Option (Nat × Bool)}
end
/-- Block g holds a cell that holds h, and has held L. -/
structure Rc (w : World) (g : Nat) (v : Value) (L : List Held) (h : Held) : Prop where
  blk : Blk w g 162 (rcV h.1 h.2 v)
  lg : OwnX 66 33 ceL w 0 v L
section
variable {w w' : World} {g : Nat} {v : Value} {l : List Held} {h : Held} {T : Nat → Prop}
theorem Rc.turn (H : Rc w g v l h) (ht : Turn T w w') (hg : ¬ T g) (hv : ∀ b, v.ownBlock = some b → ¬ T b) : Rc w' g v l h := ⟨H.blk.turn ht hg, H.lg.turn ht hv⟩
theorem Rc.below (H : Rc w g v l h) (hb : Below w.heap.size w w') : Rc w' g v l h := ⟨H.blk.below hb H.blk.lt, H.lg.below hb (Nat.le_refl _)⟩
end
end ClP
end Go.Proofs.Ytijgbbeplojinaa
set_option maxRecDepth 100000
namespace Go.Proofs.Ytijgbbeplojinaa
open Go.ChangeShapes Go.WideShapes Go.ChangeAt Go.RowKit
attribute [local go_sem] Gives GivesE
namespace ClP
def ptr' (g : Nat) : Value := .pointer (some ⟨g, 0, none⟩)
def most : Nat := 4611686018427387904
/-- What a call of the document's cell may turn. -/
def rSet (g : Nat) (v : Value) (b : Nat) : Prop := b = g ∨ v.ownBlock = some b
section
variable {w : World} {g : Nat} {v : Value} {L : List Held} {h : Held}
end
section
variable {ops : Array Oper} {a : Act} {w : World} {rest : List Oper} {dst : Option Tmp} {ty r : TypeId} {pos : String} {after : Array Edge} {x y : Operand} {C : World → Prop} {Qk : Act → Prop} {gd : Option (Nat × Bool)} {p q : Held}
end
end ClP
end Go.Proofs.Ytijgbbeplojinaa
set_option maxRecDepth 100000
namespace Go.Proofs.Ytijgbbeplojinaa
open Go.ChangeShapes Go.WideShapes Go.ChangeAt Go.RowKit
attribute [local go_sem] Gives GivesE
namespace ClP
/-- A place in memory: a block, and a number in it. -/
abbrev At := Nat × Nat
abbrev Cs := At → Prop
/-- From w to w' no place is turned but those of M; new blocks may come. -/
structure TurnC (M : Cs) (w w' : World) : Prop where
  out : Turn (fun b => ∃ i, M (b, i)) w w'
  cell : ∀ b i, b < w.heap.size → ¬ M (b, i) → w'.cell? ⟨b, i, none⟩ = w.cell? ⟨b, i, none⟩
theorem TurnC.size {M : Cs} {w w' : World} (h : TurnC M w w') : w.heap.size ≤ w'.heap.size := h.out.size
theorem TurnC.of_turn {T : Nat → Prop} {w w' : World} (h : Turn T w w') : TurnC (fun b => T b.1) w w' where
  out := h.mono fun _ e => ⟨0, e⟩
  cell b i hb hn := World.cell?_of_block (h.block b hb hn)
theorem TurnC.of_below {B : Nat} {w w' : World} (h : Below B w w') : TurnC (fun b => B ≤ b.1) w w' := TurnC.of_turn (Turn.of_below h)
theorem TurnC.mono {M N : Cs} {w w' : World} (h : TurnC M w w') (hM : ∀ b, M b → N b) : TurnC N w w' where
  out := h.out.mono fun _ ⟨i, e⟩ => ⟨i, hM _ e⟩
  cell b i hb hn := h.cell b i hb fun e => hn (hM _ e)
/-- rep w g M I L h: in w the pointer to block g is a cell that holds h, and has held L; it turns places of M alone, and reads those of M and I. -/
abbrev RepC := World → Nat → Cs → Cs → List Held → Held → Prop
def outC (rep : RepC) (w : World) (g : Nat) (M I : Cs) (L : List Held) (h : Held) (w' : World) : Prop :=
  ∃ M' I', rep w' g M' I' L h ∧ (∀ b, M' b → M b ∨ w.heap.size ≤ b.1) ∧ (∀ b, I' b → M b ∨ I b ∨ w.heap.size ≤ b.1) ∧ TurnC M w w'
structure CellD (rep : RepC) : Prop where
  lt : ∀ {w g M I L h}, rep w g M I L h → ∀ b, M b ∨ I b → b.1 < w.heap.size
  frame : ∀ {w w' g M I L h} {T : Cs}, rep w g M I L h → TurnC T w w' → (∀ b, M b ∨ I b → ¬ T b) → rep w' g M I L h
  own : ∀ {w g M I L h}, rep w g M I L h → ∀ b, M b → ¬ I b
  new : ∀ (c : Nat) (l : Nat → Nat), c ≤ most → ∀ w, Calls Try.prog 35 #[.agg (ceL (c, l)).toArray] w fun e w' => ∃ g M I, e = .returned (.tuple #[ptr' g, .int .i64 0]) ∧ rep w' g M I [((c, l) : Held)] (c, l) ∧ (∀ b, M b ∨ I b → w.heap.size ≤ b.1) ∧ Below w.heap.size w w'
  bad : ∀ (c : Nat) (l : Nat → Nat), most < c → ∀ w, Calls Try.prog 35 #[.agg (ceL (c, l)).toArray] w fun e w' => e = .returned (.tuple #[.pointer none, .int .i64 2]) ∧ Below w.heap.size w w'
  read : ∀ {w g M I L h}, rep w g M I L h → Calls Try.prog 70 #[ptr' g] w fun e w' => e = .returned (.tuple #[.agg (ceL h).toArray, .int .i64 0]) ∧ Below w.heap.size w w'
  adv : ∀ {w g M I L h}, rep w g M I L h → h.1 < most → L.length ≤ 1000 → ∀ t : Nat → Nat, Calls Try.prog 68 #[ptr' g, .agg (ar 32 t)] w fun e w' => e = .returned (.tuple #[.int .u64 ((h.1 + 1 : Nat) : Int), .int .i64 0]) ∧ outC rep w g M I (L ++ [((h.1 + 1, t) : Held)]) (h.1 + 1, t) w'
  full : ∀ {w g M I L h}, rep w g M I L h → h.1 = most → ∀ t : Nat → Nat, Calls Try.prog 68 #[ptr' g, .agg (ar 32 t)] w fun e w' => e = .returned (.tuple #[.int .u64 0, .int .i64 15]) ∧ outC rep w g M I L h w'
/-- A cell of the program's; all that it lays lies from block B on. -/
structure C1 (rep : RepC) (B : Nat) (w : World) (g : Nat) (M I : Cs) (L : List Held) (h : Held) : Prop where
  prog : rep w g M I L h
  low : ∀ b, M b ∨ I b → B ≤ b.1
  base : B ≤ w.heap.size
def Went (w : World) (M I : Cs) (w' : World) (M' I' : Cs) : Prop :=
  (∀ b, M' b → M b ∨ w.heap.size ≤ b.1) ∧ (∀ b, I' b → M b ∨ I b ∨ w.heap.size ≤ b.1) ∧ TurnC M w w'
section
variable {rep : RepC} {B g : Nat} {w w' : World} {M I M' I' : Cs} {L L' : List Held} {h h' : Held}
theorem C1.out (H : C1 rep B w g M I L h) (ho : outC rep w g M I L' h' w') : ∃ M' I', C1 rep B w' g M' I' L' h' ∧ Went w M I w' M' I' := by
  obtain ⟨M', I', h1, h2, h3, h4⟩ := ho
  refine ⟨M', I', ⟨h1, fun b hb => ?_, Nat.le_trans H.base h4.size⟩, h2, h3, h4⟩
  rcases hb with hb | hb
  · rcases h2 b hb with e | e
    · exact H.low b (.inl e)
    · exact Nat.le_trans H.base e
  · rcases h3 b hb with e | e | e
    · exact H.low b (.inl e)
    · exact H.low b (.inr e)
    · exact Nat.le_trans H.base e
theorem C1.went (H : C1 rep B w g M I L h) (hw : Went w M I w' M' I') : Below B w w' := hw.2.2.out.below H.base fun b ⟨i, e⟩ => H.low (b, i) (.inl e)
end
/-- A label of one number. -/
def lab1 (x : Nat) : Nat → Nat := fun j => if j = 0 then x else 0
section
variable {ops : Array Oper} {Q : Exit → Act → World → Prop} {a : Act} {w : World} {rest : List Oper} {dst : Option Tmp} {ty : TypeId} {pos : String} {after : Array Edge}
end
end ClP
end Go.Proofs.Ytijgbbeplojinaa
set_option maxRecDepth 100000
namespace Go.Proofs.Ytijgbbeplojinaa
namespace BuM
open MbM
/-- A step; what went over a bus. -/
structure Stp where
  a : Int
  kind : Int
  m : Int
  i : Int
  n : Int
  s : Nat → Nat
  picks : List Nat
structure Ent where
  d : Int
  m : Int
  i : Int
  s : Nat → Nat
  e : Int
structure Bs where
  ms : List St
  c : ClP.Held
  steps : List Stp
  off : Bool
  log : List Ent
def crashAll : List St → List Nat → List St
  | [], _ => []
  | st :: l, p => crash st (p.take st.log.length) :: crashAll l (p.drop st.log.length)
/-- What a step does to its member. -/
def deed (s : Stp) (st : St) : St :=
  if s.kind = 1 then seT st s.i s.s else if s.kind = 2 then mkT st else if s.kind = 3 then bkT st s.n else if s.kind = 4 then fail st true else if s.kind = 5 then fail st false else st
def mem (l : List St) (m : Int) : Bool := decide (0 ≤ m ∧ m < l.length)
def at' (l : List St) (m : Int) : St := l.getD m.toNat (made 1)
def hand (now : Nat) (s : Stp) (x : List St × Bool) : List St × Bool :=
  if s.a = (now : Int) then
    if s.kind = 6 then (crashAll x.1 s.picks, true)
    else if mem x.1 s.m then (x.1.set s.m.toNat (deed s (at' x.1 s.m)), x.2) else x
  else x
def hands (now : Nat) (l : List Stp) (x : List St × Bool) : List St × Bool := l.foldl (fun x s => hand now s x) x
/-- What is done ahead of an I/O. -/
def ahead (b : Bs) : Bs := { b with ms := (hands b.log.length b.steps (b.ms, b.off)).1, off := (hands b.log.length b.steps (b.ms, b.off)).2 }
def may (b : Bs) (m : Int) : Int := if b.off then 13 else if mem b.ms m then 0 else 2
def put (b : Bs) (x : Ent) : Bs := { b with log := b.log ++ [x] }
def upd (b : Bs) (m : Int) (st : St) : Bs := { b with ms := b.ms.set m.toNat st }
/-- What a Read tells; what a Read leaves. -/
def rdB (b : Bs) (m i : Int) : Ent := if may b m = 0 then ⟨1, m, i, rdS (at' b.ms m) i, rdE (at' b.ms m) i⟩ else ⟨1, m, i, zero, may b m⟩
def rdT (b : Bs) (m i : Int) : Bs := put (ahead b) (rdB (ahead b) m i)
def wrB (b : Bs) (m i : Int) (x : Nat → Nat) : Ent := ⟨2, m, i, x, if may b m = 0 then rdE (at' b.ms m) i else may b m⟩
def wrM (b : Bs) (m i : Int) (x : Nat → Nat) : Bs := if may b m = 0 then upd b m (wrT (at' b.ms m) i x) else b
def wrT (b : Bs) (m i : Int) (x : Nat → Nat) : Bs := put (wrM (ahead b) m i x) (wrB (ahead b) m i x)
def flB (b : Bs) (m : Int) : Ent := ⟨3, m, 0, zero, if may b m = 0 then flE (at' b.ms m) else may b m⟩
def flM (b : Bs) (m : Int) : Bs := if may b m = 0 then upd b m (flT (at' b.ms m)) else b
def flT (b : Bs) (m : Int) : Bs := put (flM (ahead b) m) (flB (ahead b) m)
def pad (t : Nat → Nat) : Nat → Nat := fun j => if j < 32 then t j else 0
def ceB (b : Bs) : Ent := if b.off then ⟨4, 0, 0, zero, 13⟩ else ⟨4, 0, 0, pad b.c.2, 0⟩
def ceV (b : Bs) : ClP.Held := if b.off then (0, ClP.zero) else b.c
def ceT (b : Bs) : Bs := put (ahead b) (ceB (ahead b))
def full (h : ClP.Held) : Bool := decide (h.1 = ClP.most)
def adE (b : Bs) : Int := if b.off then 13 else if full b.c then 15 else 0
def adN (b : Bs) : Int := if b.off then 0 else if full b.c then 0 else ((b.c.1 + 1 : Nat) : Int)
def adB (b : Bs) (t : Nat → Nat) : Ent := ⟨5, 0, 0, pad t, adE b⟩
def adM (b : Bs) (t : Nat → Nat) : Bs := if b.off then b else if full b.c then b else { b with c := (b.c.1 + 1, t) }
def adT (b : Bs) (t : Nat → Nat) : Bs := put (adM (ahead b) t) (adB (ahead b) t)
def power (b : Bs) : Bs := { b with off := false }
def new (ms : List St) (c : ClP.Held) (steps : List Stp) : Bs := ⟨ms, c, steps, false, []⟩
/-- How often a step comes at a number. -/
def many (now : Nat) (l : List Stp) : Nat := l.countP fun s => decide (s.a = (now : Int))
def okS (s : Stp) : Prop := (∀ k, s.s k < 256) ∧ ∀ p ∈ s.picks, p < 256
def okM (l : List St) : Prop := ∀ st ∈ l, st.ok
end BuM
end Go.Proofs.Ytijgbbeplojinaa
set_option maxRecDepth 100000
namespace Go.Proofs.Ytijgbbeplojinaa
namespace MiM
open GeM BuM MbM
/-- A write's first member, how many there are, and the place. -/
def hom (a b k i : Int) : Option (Nat × Nat × Nat) :=
  if k = 1 then (pl a b 1 i).map fun p => (0, a.toNat, p)
  else if k = 3 then (pl a b 3 i).map fun p => (i.toNat, 3, p)
  else if k = 4 then (if Om a b i (L lv a b) then (pl a b 4 ((i.toNat / a.toNat : Nat) : Int)).map fun p => (i.toNat % a.toNat, 1, p) else none)
  else none
/-- So many members from the first one on, round m. -/
def rnd (m f n : Nat) : List Nat := (List.range n).map fun i => (f + i) % m
def whL (a b k i : Int) : List Nat := match hom a b k i with
  | some (f, n, _) => rnd a.toNat f n
  | none => []
def whP (a b k i : Int) : Nat := match hom a b k i with
  | some (_, _, p) => p
  | none => 0
theorem rnd_length (m f n : Nat) : (rnd m f n).length = n := by unfold rnd; rw [List.length_map, List.length_range]
theorem rnd_succ (m f n : Nat) : rnd m f (n + 1) = rnd m f n ++ [(f + n) % m] := by unfold rnd; rw [List.range_succ, List.map_append]; rfl
theorem rnd_take {m f n i : Nat} (h : i ≤ n) : (rnd m f n).take i = rnd m f i := by unfold rnd; rw [← List.map_take, List.take_range, Nat.min_eq_left h]
theorem rnd_all (m : Nat) : rnd m 0 m = List.range m := by
  unfold rnd
  refine List.ext_getElem? fun i => ?_
  rw [List.getElem?_map]
  by_cases h : i < m
  · rw [List.getElem?_range h]
    show some ((0 + i) % m) = some i
    rw [Nat.zero_add, Nat.mod_eq_of_lt h]
  · rw [List.getElem?_eq_none (by rw [List.length_range]; omega)]; rfl
theorem pl_some {a b k i : Int} {p : Nat} (h : pl a b k i = some p) : GeM.Good a b ∧ 1 ≤ k ∧ k ≤ 4 ∧ (GeM.lw k : Int) ≤ i ∧ i - GeM.lw k < GeM.sz a.toNat b.toNat k.toNat := by
  by_cases e : GeM.Good a b ∧ 1 ≤ k ∧ k ≤ 4 ∧ (GeM.lw k : Int) ≤ i ∧ i - GeM.lw k < GeM.sz a.toNat b.toNat k.toNat
  · exact e
  · rw [pl_none e] at h; cases h
theorem pl_le {a b k i : Int} {p : Nat} (h : pl a b k i = some p) : p ≤ 20000 := by
  have h0 := pl_some h
  obtain ⟨hg, h1, h4, h5, h6⟩ := h0
  obtain ⟨n, hn⟩ : ∃ n : Nat, k = n := ⟨k.toNat, by omega⟩
  subst hn
  rw [pl_L (k := n) (by omega) (by omega) a b i] at h
  have hu := st_up (a := a) (b := b) (k := n) (by omega) (by omega)
  split at h
  · rename_i h7
    cases h
    omega
  · cases h
/-- What is known of a write's place. -/
theorem hom_some {a b k i : Int} {f n p : Nat} (h : hom a b k i = some (f, n, p)) : ∃ m q : Nat, a = m ∧ b = q ∧ GeM.Good m q ∧ 4 ≤ m ∧ m ≤ 64 ∧ 1 ≤ n ∧ n ≤ m ∧ f ≤ 8192 ∧ p ≤ 20000 := by
  unfold hom at h
  split at h
  · cases e : pl a b 1 i with
    | none => rw [e] at h; cases h
    | some x =>
      rw [e] at h
      simp only [Option.map_some, Option.some.injEq, Prod.mk.injEq] at h
      obtain ⟨rfl, rfl, rfl⟩ := h
      have hg := (pl_some e).1
      obtain ⟨m, q, rfl, rfl, h1, h2, h3, h4⟩ := good_nat hg
      have := pl_le e
      exact ⟨m, q, rfl, rfl, hg, h1, h2, by omega, by omega, by omega, this⟩
  · split at h
    · cases e : pl a b 3 i with
      | none => rw [e] at h; cases h
      | some x =>
        rw [e] at h
        simp only [Option.map_some, Option.some.injEq, Prod.mk.injEq] at h
        obtain ⟨rfl, rfl, rfl⟩ := h
        obtain ⟨hg, _, _, h5, h6⟩ := pl_some e
        have := pl_le e
        obtain ⟨m, q, rfl, rfl, h1, h2, h3, h4⟩ := good_nat hg
        have h7 : GeM.sz (m : Int).toNat (q : Int).toNat (3 : Int).toNat = nd m q := rfl
        have h8 : nd m q ≤ 4096 := by
          unfold nd
          have := Nat.pow_le_pow_right (show 0 < 2 by omega) (ht_bd hg)
          omega
        rw [h7] at h6
        have h9 : (GeM.lw 3 : Int) = 1 := rfl
        exact ⟨m, q, rfl, rfl, hg, h1, h2, by omega, by omega, by omega, this⟩
    · split at h
      · split at h
        · rename_i hom
          cases e : pl a b 4 ((i.toNat / a.toNat : Nat) : Int) with
          | none => rw [e] at h; cases h
          | some x =>
            rw [e] at h
            simp only [Option.map_some, Option.some.injEq, Prod.mk.injEq] at h
            obtain ⟨rfl, rfl, rfl⟩ := h
            have hg := (pl_some e).1
            obtain ⟨m, q, rfl, rfl, h1, h2, h3, h4⟩ := good_nat hg
            have := pl_le e
            have := Nat.mod_lt i.toNat (show 0 < (m : Int).toNat by omega)
            exact ⟨m, q, rfl, rfl, hg, h1, h2, by omega, by omega, by omega, ‹_›⟩
        · cases h
      · cases h
theorem hom_bad {a b k i : Int} (h : ¬ GeM.Good a b) : hom a b k i = none := by
  cases e : hom a b k i with
  | none => rfl
  | some x =>
    obtain ⟨f, n, p⟩ := x
    obtain ⟨m, q, rfl, rfl, hg, _⟩ := hom_some e
    exact absurd hg h
theorem whL_nil {a b k i : Int} : whL a b k i = [] ↔ hom a b k i = none := by
  unfold whL
  cases e : hom a b k i with
  | none => simp
  | some x =>
    obtain ⟨f, n, p⟩ := x
    obtain ⟨m, q, rfl, rfl, hg, _, _, h1, _⟩ := hom_some e
    simp only [reduceCtorEq, iff_false]
    intro e2
    have := congrArg List.length e2
    rw [rnd_length] at this
    simp only [List.length_nil] at this
    omega
/-! What is done to members, one behind the other: e tells its error, t what it leaves. -/
section
variable (e : Bs → Nat → Int) (t : Bs → Nat → Bs)
def run (b : Bs) (l : List Nat) : Bs := l.foldl t b
def did (b : Bs) : List Nat → List Nat
  | [] => []
  | m :: l => if e b m = 0 then m :: did (t b m) l else did (t b m) l
def nof (b : Bs) : List Nat → Prop
  | [] => True
  | m :: l => e b m ≠ 13 ∧ nof (t b m) l
/-- Who did it, or none if the power went; what is left. -/
def took (b : Bs) : List Nat → Option (List Nat) × Bs
  | [] => (some [], b)
  | m :: l => if e b m = 13 then (none, t b m) else ((took (t b m) l).1.map fun x => if e b m = 0 then m :: x else x, (took (t b m) l).2)
variable {e t} {b : Bs}
end
/-! A node read: T tells whether a sector has the tag. -/
section
variable (T : (Nat → Nat) → Bool) (p : Nat)
def rde (b : Bs) (m : Nat) : Ent := rdB (BuM.ahead b) (m : Int) (p : Int)
def rdt (b : Bs) (m : Nat) : Bs := BuM.rdT b (m : Int) (p : Int)
def hit (b : Bs) (m : Nat) : Bool := decide ((rde p b m).e = 0) && T (rde p b m).s
/-- No sector had the tag so far, nor did the power go. -/
def non (b : Bs) : List Nat → Prop
  | [] => True
  | m :: l => ((rde p b m).e ≠ 13 ∧ hit T p b m = false) ∧ non (rdt p b m) l
/-- Why there is none. -/
def why (b : Bs) : List Nat → Int → Int
  | [], y => y
  | m :: l, y => why (rdt p b m) l (if (rde p b m).e = 0 then 11 else y)
/-- The sector, those ahead, the error; what is left. -/
def nodeR (b : Bs) (pre : List Nat) : List Nat → Int → (Nat → Nat) × List Nat × Int × Bs
  | [], y => (fun _ => 0, [], y, b)
  | m :: l, y => if (rde p b m).e = 13 then (fun _ => 0, [], 13, rdt p b m) else if hit T p b m = true then ((rde p b m).s, pre, 0, rdt p b m) else nodeR (rdt p b m) (pre ++ [m]) l (if (rde p b m).e = 0 then 11 else y)
variable {T p} {b : Bs}
end
end MiM
end Go.Proofs.Ytijgbbeplojinaa
set_option maxRecDepth 100000
namespace Go.Proofs.Ytijgbbeplojinaa
open Go.ChangeShapes Go.WideShapes Go.ChangeAt Go.RowKit
section
variable {α : Type} {k : Nat} {en : α → List Value} {E L : TypeId}
variable {ops : Array Oper} {Q : Exit → Act → World → Prop} {a : Act} {w : World} {rest : List Oper} {dst : Option Tmp} {ty : TypeId} {pos : String} {after : Array Edge} {o p : Operand} {x y : α} {v u : Value}
end
end Go.Proofs.Ytijgbbeplojinaa
set_option maxRecDepth 100000
namespace Go.Proofs.Ytijgbbeplojinaa
open Go.ChangeShapes Go.WideShapes Go.ChangeAt Go.RowKit
attribute [local go_sem] Gives GivesE
namespace GeM
/-- A number, and how many there are. -/
def prL (p : Int × Int) : List Value := [.int .i64 p.1, .int .i64 p.2]
theorem eltPr : EltX 168 2 prL where
  pos := by omega
  len := fun _ => rfl
  one p u hu := by
    simp only [prL, List.mem_cons, List.not_mem_nil, or_false] at hu
    rcases hu with rfl | rfl <;> rfl
  info := elt_info (by kernel_rfl) (by kernel_rfl) (by kernel_rfl)
theorem undPr : Try.prog.underlying 175 = some (.slice 168) := Try.underlying175
theorem tPr (p : Int × Int) : RowT 168 (#[Value.int .i64 p.1, .int .i64 p.2] : Array Value).size := ⟨by kernel_rfl, _, Try.underlying168, rfl⟩
/-- Is it a geometry, and is each number one of as many? -/
def thr (a b : Int) (l : List (Int × Int)) : Bool := decide (Good a b) && l.all fun p => decide (0 ≤ p.1 ∧ p.1 < p.2)
set_option maxHeartbeats 400000 in
theorem there_any {A : Option Addr} {l : List (Int × Int)} {n c : Nat} {S : Nat → Prop} (a b : Int) (w : World) (hl : Sli 2 prL S w A l n c) :
    Calls Try.prog 97 #[gv a b, .slice A n c] w fun e w' => e = .returned (.bool (thr a b l)) ∧ Below w.heap.size w w' := by
  have HL := hid hl
  have hn : n ≤ 9223372036854775807 := by have := hl.cap; have := hl.max; unfold maxLen at *; omega
  clear hl
  obtain ⟨q, hq⟩ : ∃ q, q = thr a b l := ⟨_, rfl⟩
  rw [← hq]
  have HQ := hid hq
  clear hq
  unfold gv
  go_enter Try.func97, Try.ntmps97
  go_wp2_with fail
  go_loopw [9] (fun u wr => ∃ k : Nat, u = .int .i64 k ∧ k ≤ n ∧ Hid (At w w.heap.size a b wr) ∧ Hid (∀ i y, i < k → l[i]? = some y → 0 ≤ y.1 ∧ y.1 < y.2)) (fun u _ => n - (intOf u).toNat)
  case atStart => exact ⟨0, rfl, by omega, hid (At.new w a b), hid fun i y hi => absurd hi (Nat.not_lt_zero _)⟩
  case round =>
    obtain ⟨k, rfl, hk, HA, HM⟩ := hrel
    by_cases hgo : k < n
    · have t1 : (k : Int) < n := by omega
      obtain ⟨y, hy⟩ : ∃ y, l[k]? = some y := ⟨_, List.getElem?_eq_getElem (by rw [HL.out.len]; exact hgo)⟩
      obtain ⟨g, o, rfl, _, hbl, hr⟩ := (HL.out.turn (Turn.of_new (S := fun _ => False) HA.out.bel) fun _ _ _ e => e).some hy
      have HY := hid hy
      have HR := hid hr
      clear hy hr
      obtain ⟨y1, y2⟩ := y
      by_cases hok : 0 ≤ y1 ∧ y1 < y2
      · obtain ⟨o1, o2⟩ := hok
        have t2 : ¬ y1 < 0 := by omega
        have t3 : ¬ y2 ≤ y1 := by omega
        go_wp2_with ((with_reducible apply ldR (cs := #[Value.int .i64 y1, Value.int .i64 y2]) (tPr (y1, y2))); rfl; exact HR.out)
        go_roundw
        case rel =>
          refine ⟨k + 1, by go_num, by omega, hid (HA.out.on (below_al _)), hid fun i x hi hx => ?_⟩
          by_cases e : i = k
          · rw [e, HY.out] at hx
            cases hx
            exact ⟨o1, o2⟩
          · exact HM.out i x (by omega) hx
        case measure => simp [intOf] <;> omega
      · have hf : thr a b l = false := by
          unfold thr
          rw [Bool.and_eq_false_iff]
          refine .inr (Bool.eq_false_iff.2 fun e => hok ?_)
          have := List.all_eq_true.1 e _ (List.mem_of_getElem? HY.out)
          exact of_decide_eq_true this
        have HF := hid hf
        clear hf
        have HB := hid ((HA.out.on (below_al (.cells #[Value.int .i64 y1, Value.int .i64 y2] 168))).bel)
        by_cases t2 : y1 < 0
        · go_wp2_with ((with_reducible apply ldR (cs := #[Value.int .i64 y1, Value.int .i64 y2]) (tPr (y1, y2))); rfl; exact HR.out)
          go_ret
          exact ⟨by rw [HQ.out, HF.out]; rfl, HB.out⟩
        · have t3 : y2 ≤ y1 := by omega
          go_wp2_with ((with_reducible apply ldR (cs := #[Value.int .i64 y1, Value.int .i64 y2]) (tPr (y1, y2))); rfl; exact HR.out)
          go_ret
          exact ⟨by rw [HQ.out, HF.out]; rfl, HB.out⟩
    · have t1 : ¬ (k : Int) < n := by omega
      have hall : (l.all fun p => decide (0 ≤ p.1 ∧ p.1 < p.2)) = true := List.all_eq_true.2 fun x hx => by
        obtain ⟨i, hi⟩ := List.getElem?_of_mem hx
        exact decide_eq_true (HM.out i x (by have := (List.getElem?_eq_some_iff.1 hi).1; rw [HL.out.len] at this; omega) hi)
      have HT := hid (show thr a b l = decide (Good a b) by unfold thr; rw [hall, Bool.and_true])
      clear hall
      go_wp2_with ((with_reducible apply ldR (cs := #[Value.int .i64 a, .int .i64 b]) (tGe _ _)); rfl; exact HA.out.blk.whole)
      refine (check_any _ _ _).mono ?_
      rintro e w1 ⟨rfl, h1⟩
      have A1 := hid (HA.out.on h1)
      clear h1 HA
      by_cases hg : Good a b
      · rw [if_pos hg]
        go_wp2_with fail
        go_ret
        exact ⟨by rw [HQ.out, HT.out, decide_eq_true hg]; rfl, A1.out.bel⟩
      · rw [if_neg hg]
        go_wp2_with fail
        go_ret
        exact ⟨by rw [HQ.out, HT.out, decide_eq_false hg]; rfl, A1.out.bel⟩
theorem thr_one {a b n : Int} {k : Nat} : thr a b [(n, (k : Int))] = decide (Om a b n k) := by
  rw [Bool.eq_iff_iff, decide_eq_true_iff]
  unfold thr Om
  simp
theorem gE_ldG {a : Act} {w : World} {dst : Option Tmp} {ty T : TypeId} {pos : String} {after : Array Edge} {x : Operand} {gd : Option (Nat × Bool)} {R : Value → World → Prop} {g o : Nat} {cs : Array Value}
    (hT : RowT T cs.size) (hx : a.eval x = .pointer (some ⟨g, o, none⟩)) (hb : w.rangeAt g o cs.toList) (hR : R (.agg cs) w) : GivesE Try.prog ⟨dst, .load T x, ty, pos, after, gd⟩ a w R := by
  unfold GivesE
  simp only [execOp, hx, Sem.run_bind, run_ldR hT hb, Result.andThen_ok, Sem.run_pure]
  exact hR
/-- A geometry, and a literal of one pair, once it has come up. -/
structure LitC (B : World) (g : Nat) (a b : Int) (p : Int × Int) (d5 : Bool) (v5 : Value) (w : World) : Prop where
  at' : At B g a b w
  lit : d5 = true → ∃ A c, v5 = .slice A 1 c ∧ Sli 2 prL (fun _ => True) w A [p] 1 c
theorem LitC.on {B : World} {g : Nat} {a b : Int} {p : Int × Int} {d5 : Bool} {v5 : Value} {w w' : World} (h : LitC B g a b p d5 v5 w) (hb : Below w.heap.size w w') : LitC B g a b p d5 v5 w' :=
  ⟨h.at'.on hb, fun e => by
    obtain ⟨A, c, h1, h2⟩ := h.lit e
    exact ⟨A, c, h1, h2.turn (Turn.of_new (S := fun _ => False) hb) fun _ _ _ e => e⟩⟩
set_option maxHeartbeats 400000 in
theorem at_any (a b n : Int) (w : World) : Calls Try.prog 85 #[gv a b, .int .i64 n] w fun e w' => e = .returned (v3 (atP a b n)) ∧ Below w.heap.size w w' := by
  obtain ⟨k, hk⟩ : ∃ k, k = L lv a b := ⟨_, rfl⟩
  have K := hid hk
  have LA := hid (leaves_any a b)
  rw [← hk] at LA
  clear hk
  unfold gv
  go_enter Try.func85, Try.ntmps85
  go_wp2_with fail
  refine wp_region_c (S := yS [some (gv a b), some (.int .i64 n), some (gv a b), some (.int .i64 (k : Nat)), some (.agg #[.int .i64 n, .int .i64 (k : Nat)])] [(5, kSl 1)]) (C := fun d vs w' => LitC w w.heap.size a b (n, (k : Int)) (d 5) (vs 5) w') 6 (by kernel_rfl) (by kernel_rfl) (by kernel_rfl) _
    (yS_ok _ fun y hy => by simp only [List.mem_cons, List.not_mem_nil, or_false] at hy; subst hy; exact kSl_ok _) ⟨(At.new w a b).drew, (fun e => by cases e)⟩ fun vs => ?_
  simp only [List.take_succ_cons, List.take_zero, List.drop_succ_cons, List.drop_zero]
  refine ⟨.inl ⟨rfl, fun dd w' hd hnx hw hC => ?_⟩, fun e => ?_⟩
  · exact gE_ldG (cs := #[Value.int .i64 a, .int .i64 b]) (tGe a b) rfl hC.at'.blk.whole ⟨rfl, hC⟩
  have e' : vs 0 = _ := e
  rw [e']
  clear e e'
  simp only [Act.put, List.setIfInBounds_toArray, List.set_cons_succ, List.set_cons_zero]
  refine ⟨.inl ⟨rfl, fun dd w' hd hnx hw hC => ?_⟩, fun e => ?_⟩
  · go_simp
    first | exact ⟨rfl, hC⟩ | exact hC
  have e' : vs 1 = _ := e
  rw [e']
  clear e e'
  simp only [Act.put, List.setIfInBounds_toArray, List.set_cons_succ, List.set_cons_zero]
  refine ⟨.inl ⟨rfl, fun dd w' hd hnx hw hC => ?_⟩, fun e => ?_⟩
  · exact gE_ldG (cs := #[Value.int .i64 a, .int .i64 b]) (tGe a b) rfl hC.at'.blk.whole ⟨rfl, hC⟩
  have e' : vs 2 = _ := e
  rw [e']
  clear e e'
  simp only [Act.put, List.setIfInBounds_toArray, List.set_cons_succ, List.set_cons_zero]
  refine ⟨.inl ⟨rfl, fun dd w' hd hnx hw hC => ?_⟩, fun e => ?_⟩
  · go_simp
    refine (LA.out w').mono ?_
    rintro e w2 ⟨rfl, h2⟩
    exact ⟨_, rfl, rfl, hC.on h2⟩
  have e' : vs 3 = _ := e
  rw [e']
  clear e e'
  simp only [Act.put, List.setIfInBounds_toArray, List.set_cons_succ, List.set_cons_zero]
  refine ⟨.inl ⟨rfl, fun dd w' hd hnx hw hC => ?_⟩, fun e => ?_⟩
  · go_simp
    first | exact ⟨rfl, hC⟩ | exact hC
  have e' : vs 4 = _ := e
  rw [e']
  clear e e'
  simp only [Act.put, List.setIfInBounds_toArray, List.set_cons_succ, List.set_cons_zero]
  refine ⟨.inl ⟨rfl, fun dd w' hd hnx hw hC => ?_⟩, fun e => ?_⟩
  · have ha := (Below.refl w'.heap.size w').alloc (Nat.le_refl _) (.cells (prL (n, (k : Int))).toArray 168)
    exact gE_lit1 (x := (n, (k : Int))) eltPr undPr (by omega) rfl rfl ⟨⟨_, _, rfl⟩, hC.at'.on ha, fun _ => ⟨_, _, rfl, sli_lit1 eltPr (n, (k : Int)) w' trivial⟩⟩
  obtain ⟨A7, c7, e'⟩ : ∃ (A : Option Addr) (c : Nat), vs 5 = .slice A 1 c := e
  rw [e']
  have E7 := hid e'
  clear e'
  simp only [Act.put, List.setIfInBounds_toArray, List.set_cons_succ, List.set_cons_zero]
  intro dd w1 hall hC
  have A1 := hid hC.at'
  obtain ⟨A2, c2, e2, l2⟩ := hC.lit (hall 5 (by omega))
  rw [E7.out] at e2
  cases e2
  have L2 := hid l2
  clear hC l2 hall E7
  go_wp2_with fail
  refine (there_any a b _ L2.out).mono ?_
  rintro e w3 ⟨rfl, h3⟩
  rw [thr_one]
  have A3 := hid (A1.out.on h3)
  clear h3 A1 L2
  by_cases h : Om a b n k
  · rw [decide_eq_true h]
    have h' := h
    rw [K.out] at h'
    obtain ⟨m, q, y, rfl, rfl, rfl, hg, hy⟩ := om_nat h'
    have hy' : y < lv m q := by rwa [L_good hg] at hy
    have HP := hid (atP_ok hg hy')
    have hb := r_bd hg
    have hlo := lv_bd hg
    have hd0 : ¬ m = 0 := by omega
    obtain ⟨s, hs⟩ : ∃ s, s = y / m := ⟨_, rfl⟩
    obtain ⟨t, ht⟩ : ∃ t, t = y % m := ⟨_, rfl⟩
    have hs1 : s ≤ y := by rw [hs]; exact Nat.div_le_self _ _
    have E1 := hid (show (y : Int).tdiv (m : Int) = (s : Int) by rw [hs]; exact (Int.ofNat_tdiv y m).symm)
    have E2 := hid (show (y : Int).tmod (m : Int) = (t : Int) by rw [ht]; exact (Int.ofNat_tmod y m).symm)
    have E3 := hid (show IntKind.i64.wrap (s : Int) = (s : Int) from IntWalk.i64_in _ (by omega))
    rw [← hs, ← ht] at HP
    clear h h' hg hy hy' hs ht hb hlo hs1
    go_wp2_with fail
    refine wp_region_tail (C := At w w.heap.size m q) 9 (by kernel_rfl) (by kernel_rfl) (by kernel_rfl) A3.out.drew ?_
    simp only [List.take_succ_cons, List.take_zero, List.drop_succ_cons, List.drop_zero]
    apply wpK_val
    · rfl
    · intro w' hw'
      go_simp
      first | exact rfl | exact ⟨rfl, hw'⟩
    simp only [Act.put, List.setIfInBounds_toArray, List.set_cons_succ, List.set_cons_zero]
    apply wpK_val
    · rfl
    · intro w' hw'
      go_simp
      first | exact rfl | exact ⟨rfl, hw'⟩
    simp only [Act.put, List.setIfInBounds_toArray, List.set_cons_succ, List.set_cons_zero]
    apply wpK_val
    · rfl
    · intro w' hw'
      have hcell := hw'.c0
      go_simp
      first | exact rfl | exact ⟨rfl, hw'⟩
    simp only [Act.put, List.setIfInBounds_toArray, List.set_cons_succ, List.set_cons_zero]
    apply wpK_val
    · rfl
    · intro w' hw'
      have h1 : _ = _ := E1.out
      have h2 : _ = _ := E3.out
      go_simp
      first | exact rfl | exact ⟨rfl, hw'⟩
    simp only [Act.put, List.setIfInBounds_toArray, List.set_cons_succ, List.set_cons_zero]
    apply wpK_val
    · rfl
    · intro w' hw'
      go_simp
      first | exact rfl | exact ⟨rfl, hw'⟩
    simp only [Act.put, List.setIfInBounds_toArray, List.set_cons_succ, List.set_cons_zero]
    apply wpK_val
    · rfl
    · intro w' hw'
      go_simp
      first | exact rfl | exact ⟨rfl, hw'⟩
    simp only [Act.put, List.setIfInBounds_toArray, List.set_cons_succ, List.set_cons_zero]
    apply wpK_val
    · rfl
    · intro w' hw'
      have hcell := hw'.c0
      go_simp
      first | exact rfl | exact ⟨rfl, hw'⟩
    simp only [Act.put, List.setIfInBounds_toArray, List.set_cons_succ, List.set_cons_zero]
    apply wpK_val
    · rfl
    · intro w' hw'
      have h1 : _ = _ := E2.out
      go_simp
      first | exact rfl | exact ⟨rfl, hw'⟩
    simp only [Act.put, List.setIfInBounds_toArray, List.set_cons_succ, List.set_cons_zero]
    apply wpK_val
    · rfl
    · intro w' hw'
      go_simp
      first | exact rfl | exact ⟨rfl, hw'⟩
    simp only [Act.put, List.setIfInBounds_toArray, List.set_cons_succ, List.set_cons_zero]
    refine wpK_nil fun w5 hw5 => ?_
    have A5 := hid hw5
    clear hw5
    go_wp2_with fail
    go_ret3
    exact ⟨by rw [HP.out]; rfl, A5.out.bel⟩
  · rw [decide_eq_false h]
    rw [K.out] at h
    have H := hid (atP_no h)
    clear h
    go_wp2_with fail
    go_ret3
    exact ⟨by rw [H.out]; rfl, A3.out.bel⟩
end GeM
end Go.Proofs.Ytijgbbeplojinaa
set_option maxRecDepth 100000
namespace Go.Proofs.Ytijgbbeplojinaa
open Go.ChangeShapes Go.WideShapes Go.ChangeAt Go.RowKit
attribute [local go_sem] Gives GivesE
section
variable {ops : Array Oper} {Q : Exit → Act → World → Prop} {a : Act} {w : World} {rest : List Oper} {dst : Option Tmp} {ty r : TypeId} {pos : String} {after : Array Edge} {x y : Operand} {f g : Nat → Nat} {T : TypeId} {n : Nat}
end
section
variable {ops : Array Oper} {Q : Exit → Act → World → Prop} {a : Act} {w : World} {rest : List Oper} {dst : Option Tmp} {ty T : TypeId} {pos : String} {after : Array Edge} {gd : Option (Nat × Bool)} {R : Value → World → Prop} {cs : Array Value} {ps : Array (Nat × Operand)} {vs : Array (Nat × Value)}
end
section
variable {ops : Array Oper} {Q : Exit → Act → World → Prop} {a : Act} {w : World} {rest : List Oper} {dst : Option Tmp} {ty r T : TypeId} {pos : String} {after : Array Edge} {x y : Operand} {g o n : Nat} {f h' : Nat → Nat} {gd : Option (Nat × Bool)}
end
end Go.Proofs.Ytijgbbeplojinaa
