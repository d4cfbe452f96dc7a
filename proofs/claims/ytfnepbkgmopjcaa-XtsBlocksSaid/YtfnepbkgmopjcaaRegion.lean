/-
  A region that draws its order, where each operation yields ONE value whatever has come up ahead of it, and a class of worlds (that may depend on what has come up) is handed on:
  one look at each operation, at the lexical frame, serves every order. A tail in a fixed order may stand behind.
-/
import Derived.StillTail
import Derived.Deep.Quiet
import Derived.KernelRfl
namespace Go.Proofs.Ytfnepbkgmopjcaa

/-- One operation, carried out in the world w, yields v; R holds of the world behind it. -/
def Gives (P : Program) (o : Oper) (a : Act) (w : World) (v : Value) (R : World → Prop) : Prop :=
  match (execOp a.eval o).run P w with
  | .ok (.value u) w' => u = v ∧ R w'
  | .ok .skip w' => v = undef ∧ R w'
  | .ok (.enter f args) w' => Calls P f args w' fun e w'' => e = .returned v ∧ R w''
  | _ => False

theorem wp_of_gives {P : Program} {o : Oper} {a : Act} {w : World} {v : Value} {R : World → Prop} {K : Act → World → Prop} {Q : Exit → Act → World → Prop}
    (h : Gives P o a w v R) (hK : ∀ w', R w' → K (a.put o.dst v) w') : o.wp P a w K Q := by
  unfold Gives at h
  unfold Oper.wp
  generalize (execOp a.eval o).run P w = r at *
  cases r with
  | ok n w' =>
    cases n <;> simp only at h <;> simp only [Oper.upon]
    case value u => obtain ⟨rfl, h⟩ := h; exact hK _ h
    case skip => obtain ⟨rfl, h⟩ := h; exact hK _ h
    case enter f args => exact h.mono fun e w'' ⟨he, hr⟩ => by subst he; exact hK _ hr
  | halt x w' => cases h

section
variable (ops : Array Oper)
/-- What a look at the texts of the operations shows. -/
def tidyPair (k j : Nat) (o p : Oper) : Bool :=
  j == k || ((match p.dst with | some _ => p.dst != o.dst | none => true) &&
    (match p.dst with | some d => !(o.looksAt ops).contains d || Region.waitsFor .any ops k j || (decide (k < j) && Region.waitsFor .any ops j k) | none => true))
def tidyAt (k : Nat) (o : Oper) : Bool :=
  (o.after.all fun e => !Region.binds .any e || decide (e.on < k)) && (List.range ops.size).all fun j => match ops[j]? with | some p => tidyPair ops k j o p | none => true
def tidy : Bool := Region.noSelect ops && (List.range ops.size).all fun k => match ops[k]? with | some o => tidyAt ops k o | none => true

def dstAt (j : Nat) : Option Tmp := (ops[j]?).bind (·.dst)
/-- The frame behind those of the first n operations that have come up. -/
def fr (vals : Nat → Value) (l : Nat → Bool) : Nat → Act → Act
  | 0, a => a
  | k + 1, a => if l k then (fr vals l k a).put (dstAt ops k) (vals k) else fr vals l k a
/-- Whatever has come up, all that it waits for has come up. -/
def Closed (L : Array Bool) : Prop := ∀ j o, ops[j]? = some o → L.getD j false = true → ∀ e ∈ o.after, Region.binds .any e = true → L.getD e.on false = true
end

section
variable {P : Program} {ops : Array Oper}
theorem tidy_at (h : tidy ops = true) {k : Nat} {o : Oper} (ho : ops[k]? = some o) : tidyAt ops k o = true := by
  simp only [tidy, Bool.and_eq_true] at h
  have hk : k < ops.size := (Array.getElem?_eq_some_iff.1 ho).1
  have := List.all_eq_true.1 h.2 k (List.mem_range.2 hk)
  simpa [ho] using this
theorem tidy_edge (h : tidy ops = true) {k : Nat} {o : Oper} (ho : ops[k]? = some o) : ∀ e ∈ o.after, Region.binds .any e = true → e.on < k := by
  intro e he hb
  have := tidy_at h ho
  simp only [tidyAt, Bool.and_eq_true] at this
  have h1 := (Array.all_eq_true_iff_forall_mem.1 this.1) e he
  simpa [hb] using h1
theorem tidy_pair (h : tidy ops = true) {k j : Nat} {o p : Oper} (ho : ops[k]? = some o) (hp : ops[j]? = some p) : tidyPair ops k j o p = true := by
  have := tidy_at h ho
  simp only [tidyAt, Bool.and_eq_true] at this
  have hj : j < ops.size := (Array.getElem?_eq_some_iff.1 hp).1
  have h1 := List.all_eq_true.1 this.2 j (List.mem_range.2 hj)
  simpa [hp] using h1
theorem dst_ne (h : tidy ops = true) {k j : Nat} (hne : j ≠ k) : ∀ d, dstAt ops j = some d → dstAt ops k ≠ some d := by
  intro d hj hk
  unfold dstAt at hj hk
  cases hoj : ops[j]? with
  | none => simp [hoj] at hj
  | some p =>
    cases hok : ops[k]? with
    | none => simp [hok] at hk
    | some o =>
      simp only [hoj, hok, Option.bind_some] at hj hk
      have := tidy_pair h hok hoj
      simp [tidyPair, hne, hj, hk] at this

theorem fr_congr {vals : Nat → Value} {l l' : Nat → Bool} : ∀ {n : Nat} {a : Act}, (∀ j, j < n → l j = l' j) → fr ops vals l n a = fr ops vals l' n a
  | 0, _, _ => rfl
  | n + 1, a, h => by
    simp only [fr, h n (by omega), fr_congr (n := n) (a := a) fun j hj => h j (by omega)]
theorem fr_vals {vals vals' : Nat → Value} {l : Nat → Bool} : ∀ {n : Nat} {a : Act}, (∀ j, j < n → l j = true → vals j = vals' j) → fr ops vals l n a = fr ops vals' l n a
  | 0, _, _ => rfl
  | n + 1, a, h => by
    simp only [fr, fr_vals (n := n) (a := a) fun j hj => h j (by omega)]
    by_cases e : l n = true
    · rw [if_pos e, if_pos e, h n (by omega) e]
    · rw [if_neg e, if_neg e]
theorem fr_set (h : tidy ops = true) {vals : Nat → Value} {l : Nat → Bool} {i : Nat} (hl : l i = false) :
    ∀ {n : Nat} {a : Act}, i < n → fr ops vals (fun j => l j || j == i) n a = (fr ops vals l n a).put (dstAt ops i) (vals i)
  | 0, _, hi => by omega
  | n + 1, a, hi => by
    by_cases e : i = n
    · subst e
      simp only [fr, beq_self_eq_true, Bool.or_true, if_true, hl, Bool.false_eq_true, if_false]
      congr 1
      exact fr_congr fun j hj => by
        have : (j == i) = false := by simp; omega
        simp [this]
    · have ih := fr_set h (vals := vals) hl (n := n) (a := a) (by omega)
      have : (n == i) = false := by simp; omega
      simp only [fr, this, Bool.or_false, ih]
      cases l n with
      | true => simp only [if_true]; exact Act.put_comm _ _ _ (dst_ne h e)
      | false => simp
theorem size_put (a : Act) (d : Option Tmp) (v : Value) : (a.put d v).tmps.size = a.tmps.size := by cases d <;> simp [Act.put]
theorem size_fr {vals : Nat → Value} {l : Nat → Bool} : ∀ {n : Nat} {a : Act}, (fr ops vals l n a).tmps.size = a.tmps.size
  | 0, _ => rfl
  | n + 1, a => by
    simp only [fr]
    split
    · rw [size_put, size_fr]
    · exact size_fr
theorem fr_get {vals : Nat → Value} {l l' : Nat → Bool} {t : Tmp} : ∀ {n : Nat} {a : Act}, (∀ j, j < n → dstAt ops j = some t → l j = l' j) →
    (fr ops vals l n a).tmps[t]? = (fr ops vals l' n a).tmps[t]?
  | 0, _, _ => rfl
  | n + 1, a, h => by
    have ih := fr_get (vals := vals) (n := n) (a := a) fun j hj => h j (by omega)
    have hput : ∀ (b : Act) (v : Value), dstAt ops n ≠ some t → (b.put (dstAt ops n) v).tmps[t]? = b.tmps[t]? := fun b v hne => by
      cases hd : dstAt ops n with
      | none => rfl
      | some d =>
        have hdt : d ≠ t := fun e => hne (by rw [hd, e])
        simp [Act.put, Array.getElem?_setIfInBounds_ne hdt]
    by_cases hd : dstAt ops n = some t
    · have e := h n (by omega) hd
      simp only [fr, e]
      split
      · simp only [Act.put, hd, Array.getElem?_setIfInBounds_self, size_fr]
      · exact ih
    · simp only [fr]
      split <;> split
      · rw [hput _ _ hd, hput _ _ hd]; exact ih
      · rw [hput _ _ hd]; exact ih
      · rw [hput _ _ hd]; exact ih
      · exact ih

theorem exec_same (h : tidy ops = true) {vals : Nat → Value} {L : Array Bool} {k n : Nat} {o : Oper} {a : Act} (ho : ops[k]? = some o) (hcl : Closed ops L) (hr : k ∈ Region.ready .any ops L) :
    execOp (fr ops vals (fun j => L.getD j false) n a).eval o = execOp (fr ops vals (fun j => decide (j < k)) n a).eval o ∧
    Region.wanted o (yielded ops (fr ops vals (fun j => L.getD j false) n a).tmps) = Region.wanted o (yielded ops (fr ops vals (fun j => decide (j < k)) n a).tmps) := by
  obtain ⟨hun, o', ho', hall⟩ := mem_ready.1 hr
  obtain rfl : o = o' := Option.some.inj (ho.symm.trans ho')
  have hunf := getD_both hun
  have key : ∀ t, t ∈ o.looksAt ops → (fr ops vals (fun j => L.getD j false) n a).tmps[t]? = (fr ops vals (fun j => decide (j < k)) n a).tmps[t]? := fun t ht => fr_get fun j _ hd => by
    unfold dstAt at hd
    cases hp : ops[j]? with
    | none => simp [hp] at hd
    | some p =>
      simp only [hp, Option.bind_some] at hd
      have hpair := tidy_pair h ho hp
      by_cases e : j = k
      · subst e; rw [hunf]; simp
      · have hc : (o.looksAt ops).contains t = true := by simpa using ht
        simp only [tidyPair, hd, hc] at hpair
        simp [e] at hpair
        rcases hpair.2 with hw | ⟨hlt, hw⟩
        · obtain ⟨o2, ho2, e2, he2, hb2, hon⟩ := Region.waitsFor_spec hw
          obtain rfl : o = o2 := Option.some.inj (ho.symm.trans ho2)
          have h1 := hall e2 he2 hb2
          have h2 := tidy_edge h ho e2 he2 hb2
          rw [hon] at h1 h2
          rw [h1]; simp [h2]
        · obtain ⟨p2, hp2, e2, he2, hb2, hon⟩ := Region.waitsFor_spec hw
          obtain rfl : p = p2 := Option.some.inj (hp.symm.trans hp2)
          cases hl : L.getD j false with
          | true =>
            have := hcl j p hp hl e2 he2 hb2
            rw [hon, hunf] at this
            cases this
          | false => simp; omega
  constructor
  · refine execOp_congr o (fun cs b => Region.noSelect_spec (by simp only [tidy, Bool.and_eq_true] at h; exact h.1) k o cs b ho) fun x hx => ?_
    cases x with
    | tmp t =>
      have ht : t ∈ o.looksAt ops := List.mem_append_left _ (List.mem_filterMap.2 ⟨.tmp t, by simpa using hx, rfl⟩)
      show Array.getD _ t undef = Array.getD _ t undef
      rw [Array.getD_eq_getD_getElem?, Array.getD_eq_getD_getElem?, key t ht]
    | _ => rfl
  · unfold Region.wanted
    cases hg : o.guard with
    | none => rfl
    | some gw =>
      obtain ⟨g, want⟩ := gw
      simp only
      congr 1
      unfold yielded
      cases hd : (ops[g]?).bind (·.dst) with
      | none => rfl
      | some d =>
        have ht : d ∈ o.looksAt ops := List.mem_append_right _ (by simp [hg, hd])
        simp only [Option.bind_some, key d ht]

theorem countP_one {l : List Nat} {i : Nat} {p q : Nat → Bool} (hp : p i = true) (hq : q i = false) (h : ∀ j, j ≠ i → q j = p j) : l.Nodup → i ∈ l → l.countP q + 1 = l.countP p := by
  induction l with
  | nil => intro _ hi; cases hi
  | cons x l ih =>
    intro hn hi
    rw [List.nodup_cons] at hn
    by_cases e : x = i
    · subst e
      rw [List.countP_cons, List.countP_cons, hp, hq]
      have : l.countP q = l.countP p := by
        apply List.countP_congr
        intro j hj
        rw [h j fun e => hn.1 (e ▸ hj)]
      simp [this]
    · rw [List.countP_cons, List.countP_cons, h x e]
      have hi' : i ∈ l := by
        cases hi with
        | head => exact absurd rfl e
        | tail _ h => exact h
      have := ih hn.2 hi'
      omega
theorem getD_up {L : Array Bool} {i : Nat} (hi : i < L.size) (h : L.getD i true = true) : L.getD i false = true := by
  simp [hi] at h ⊢; exact h
def cnt (n : Nat) (L : Array Bool) : Nat := (List.range n).countP fun i => !L.getD i true

theorem closed_set {L : Array Bool} (h : Closed ops L) {i : Nat} (hr : i ∈ Region.ready .any ops L) : Closed ops (L.setIfInBounds i true) := by
  obtain ⟨_, oi, hoi, hall⟩ := mem_ready.1 hr
  intro j o ho hl e he hb
  by_cases hij : i = j
  · subst hij
    obtain rfl : o = oi := Option.some.inj (ho.symm.trans hoi)
    exact getD_set_true (hall e he hb)
  · rw [getD_set_ne false hij] at hl
    exact getD_set_true (h j o ho hl e he hb)

/-- The head of a region: the first n operations, in whatever order; behind them the tail. -/
theorem head_any {Γ : Type} {n g : Nat} {Q : Exit → Act → World → Prop} {vals : Γ → Nat → Value} {C : Γ → Array Bool → World → Prop} {a0 : Act} (ht : tidy ops = true) (hn : n ≤ ops.size)
    (hstep : ∀ k o, k < n → ops[k]? = some o → ∀ γ L w, L.size = ops.size → Closed ops L → k ∈ Region.ready .any ops L → C γ L w →
      ∃ γ', (∀ j, L.getD j false = true → vals γ j = vals γ' j) ∧
      ((Region.wanted o (yielded ops (fr ops (vals γ) (fun j => decide (j < k)) ops.size a0).tmps) = true ∧ Gives P o (fr ops (vals γ) (fun j => decide (j < k)) ops.size a0) w (vals γ' k) (C γ' (L.setIfInBounds k true))) ∨
      (Region.wanted o (yielded ops (fr ops (vals γ) (fun j => decide (j < k)) ops.size a0).tmps) = false ∧ vals γ' k = undef ∧ C γ' (L.setIfInBounds k true) w)))
    (hsink : ∀ L, L.size = ops.size → Closed ops L → (∀ t, n ≤ t → t < ops.size → L.getD t true = false) → ∀ i, i < n → L.getD i true = false → ∀ t ∈ Region.ready .any ops L, t < n)
    (htail : ∀ γ L w, L.size = ops.size → (∀ i, i < n → L.getD i false = true) → (∀ t, n ≤ t → t < ops.size → L.getD t true = false) → C γ L w →
      wpAny P .any ops Q g L (fr ops (vals γ) (fun j => decide (j < n)) ops.size a0) w) :
    ∀ (f : Nat) (γ : Γ) (L : Array Bool) (w : World), L.size = ops.size → Closed ops L → (∀ t, n ≤ t → t < ops.size → L.getD t true = false) → cnt n L = f → C γ L w →
      wpAny P .any ops Q (f + g) L (fr ops (vals γ) (fun j => L.getD j false) ops.size a0) w
  | 0, γ, L, w, hs, hcl, htl, hc, hC => by
    have hall : ∀ i, i < n → L.getD i false = true := fun i hi => by
      have h1 : ∀ j ∈ List.range n, ¬ (!L.getD j true) = true := List.countP_eq_zero.1 hc
      have h2 := h1 i (List.mem_range.2 hi)
      exact getD_up (by omega) (by simpa using h2)
    rw [Nat.zero_add, fr_congr (l' := fun j => decide (j < n)) fun j hj => ?_]
    · exact htail γ L w hs hall htl hC
    · by_cases hjn : j < n
      · rw [hall j hjn]; simp [hjn]
      · rw [getD_both (htl j (by omega) hj)]; simp [hjn]
  | f + 1, γ, L, w, hs, hcl, htl, hc, hC => by
    rw [show f + 1 + g = (f + g) + 1 by omega]
    -- the least that has not come up may come up
    have hex : ∃ i, i < n ∧ L.getD i true = false := by
      have hpos : 0 < (List.range n).countP fun i => !L.getD i true := by unfold cnt at hc; omega
      obtain ⟨i, hi, h1⟩ := List.countP_pos_iff.1 hpos
      exact ⟨i, List.mem_range.1 hi, by simpa using h1⟩
    have hready : ∃ i, i ∈ Region.ready .any ops L := by
      obtain ⟨i, hi, hun⟩ := hex
      induction i using Nat.strongRecOn with
      | _ i ih =>
        by_cases hless : ∃ j, j < i ∧ L.getD j true = false
        · obtain ⟨j, hj, hjun⟩ := hless
          exact ih j hj (by omega) hjun
        · have hio : i < ops.size := by omega
          refine ⟨i, mem_ready.2 ⟨hun, ops[i], Array.getElem?_eq_getElem hio, fun e he hb => ?_⟩⟩
          have hlt := tidy_edge ht (Array.getElem?_eq_getElem hio) e he hb
          refine getD_up (by omega) ?_
          cases h0 : L.getD e.on true with
          | true => rfl
          | false => exact absurd ⟨e.on, hlt, h0⟩ hless
    obtain ⟨i0, hi0, hun0⟩ := hex
    refine ⟨fun h0 => (by obtain ⟨i, hi⟩ := hready; rw [h0] at hi; cases hi), fun i hi => ?_⟩
    have hin : i < n := hsink L hs hcl htl i0 hi0 hun0 i hi
    obtain ⟨hun, o, ho, _⟩ := mem_ready.1 hi
    have hio : i < ops.size := by omega
    obtain ⟨hex1, hex2⟩ := exec_same (vals := vals γ) (n := ops.size) (a := a0) ht ho hcl hi
    obtain ⟨γ', hag, hst⟩ := hstep i o hin ho γ L w hs hcl hi hC
    have hnext : ∀ w', C γ' (L.setIfInBounds i true) w' → wpAny P .any ops Q (f + g) (L.setIfInBounds i true) ((fr ops (vals γ) (fun j => L.getD j false) ops.size a0).put o.dst (vals γ' i)) w' := fun w' hC' => by
      have ih := head_any (g := g) (Q := Q) ht hn hstep hsink htail f γ' (L.setIfInBounds i true) w' (by simpa using hs) (closed_set hcl hi) (fun t h1 h2 => by rw [getD_set_ne true (by omega)]; exact htl t h1 h2)
        (by
          have h1 : cnt n (L.setIfInBounds i true) + 1 = cnt n L := by
            refine countP_one (i := i) (by simpa using hun) ?_ (fun j hj => by rw [getD_set_ne true (Ne.symm hj)]) List.nodup_range (List.mem_range.2 hin)
            simp [show i < L.size by omega]
          omega) hC'
      rw [fr_congr (l' := fun j => L.getD j false || j == i) fun j _ => ?_, fr_set ht (getD_both hun) hio, ← fr_vals fun j _ hj => hag j hj] at ih
      · unfold dstAt at ih; rw [ho] at ih; exact ih
      · by_cases e : j = i
        · subst e; simp [show j < L.size by omega]
        · have : (j == i) = false := by simpa using e
          rw [getD_set_ne false (Ne.symm e), this, Bool.or_false]
    unfold wpOp
    simp only [ho]
    rcases hst with ⟨hw, hg⟩ | ⟨hw, hv, hC'⟩
    · rw [hex2, if_pos hw]
      refine .inl (wp_of_gives (v := vals γ' i) (R := C γ' (L.setIfInBounds i true)) ?_ hnext)
      unfold Gives at hg ⊢
      rw [hex1]; exact hg
    · rw [hex2, hw, if_neg (by simp)]
      rw [← hv]
      exact hnext w hC'

/-! ### One class of worlds; the lexical walk -/
/-- The operations in the order of the text; C: the class of worlds that each is handed, and hands on. -/
def wpK (P : Program) (ops : Array Oper) (C : World → Prop) (Q : Act → Prop) : List Oper → Act → Prop
  | [], a => Q a
  | o :: rest, a => ∃ v, ((Region.wanted o (yielded ops a.tmps) = true ∧ ∀ w, C w → Gives P o a w v C) ∨ (Region.wanted o (yielded ops a.tmps) = false ∧ v = undef)) ∧ wpK P ops C Q rest (a.put o.dst v)
section
variable {C : World → Prop} {Qk : Act → Prop} {o : Oper} {rest : List Oper} {a : Act} {v : Value}
theorem wpK_nil (h : Qk a) : wpK P ops C Qk [] a := h
theorem wpK_val (hw : Region.wanted o (yielded ops a.tmps) = true) (h1 : ∀ w, C w → Gives P o a w v C) (h2 : wpK P ops C Qk rest (a.put o.dst v)) : wpK P ops C Qk (o :: rest) a := ⟨v, .inl ⟨hw, h1⟩, h2⟩
theorem wpK_not (hw : Region.wanted o (yielded ops a.tmps) = false) (h2 : wpK P ops C Qk rest (a.put o.dst undef)) : wpK P ops C Qk (o :: rest) a := ⟨undef, .inr ⟨hw, rfl⟩, h2⟩
theorem gives_value {w w' : World} {R : World → Prop} (h : (execOp a.eval o).run P w = .ok (.value v) w') (hR : R w') : Gives P o a w v R := by unfold Gives; rw [h]; exact ⟨rfl, hR⟩
theorem gives_skip {w w' : World} {R : World → Prop} (h : (execOp a.eval o).run P w = .ok .skip w') (hR : R w') : Gives P o a w undef R := by unfold Gives; rw [h]; exact ⟨rfl, hR⟩
theorem gives_enter {w w' : World} {R : World → Prop} {f : FuncId} {args : Array Value} (h : (execOp a.eval o).run P w = .ok (.enter f args) w') (hR : Calls P f args w' fun e w'' => e = .returned v ∧ R w'') : Gives P o a w v R := by unfold Gives; rw [h]; exact hR
end

/-- The frames of the lexical walk. -/
def lexF (l : List Oper) (vals : Nat → Value) : Nat → Act → Act
  | 0, a => a
  | i + 1, a => (lexF l vals i a).put ((l[i]?).bind (·.dst)) (vals i)
theorem lexF_cons {o : Oper} {l : List Oper} {vals : Nat → Value} : ∀ {i : Nat} {a : Act}, lexF (o :: l) vals (i + 1) a = lexF l (fun j => vals (j + 1)) i (a.put o.dst (vals 0))
  | 0, a => by simp [lexF]
  | i + 1, a => by
    have := lexF_cons (o := o) (l := l) (vals := vals) (i := i) (a := a)
    rw [lexF, this]
    simp [lexF]
theorem wpK_vals {C : World → Prop} {Qk : Act → Prop} : ∀ (l : List Oper) (a : Act), wpK P ops C Qk l a → ∃ vals : Nat → Value, Qk (lexF l vals l.length a) ∧
    ∀ i o, l[i]? = some o → ((Region.wanted o (yielded ops (lexF l vals i a).tmps) = true ∧ ∀ w, C w → Gives P o (lexF l vals i a) w (vals i) C) ∨ (Region.wanted o (yielded ops (lexF l vals i a).tmps) = false ∧ vals i = undef))
  | [], a, h => ⟨fun _ => undef, h, fun i o hi => by simp at hi⟩
  | o :: l, a, h => by
    obtain ⟨v, h1, h2⟩ := h
    obtain ⟨vals, hq, hs⟩ := wpK_vals l _ h2
    refine ⟨fun j => match j with | 0 => v | j + 1 => vals j, ?_, fun i o' hi => ?_⟩
    · rw [List.length_cons, lexF_cons]; exact hq
    · cases i with
      | zero =>
        simp only [List.getElem?_cons_zero, Option.some.injEq] at hi
        subst hi
        exact h1
      | succ i =>
        rw [lexF_cons]
        exact hs i o' (by simpa using hi)
theorem fr_stop {vals : Nat → Value} {k : Nat} : ∀ (d : Nat) (a : Act), fr ops vals (fun j => decide (j < k)) (k + d) a = fr ops vals (fun j => decide (j < k)) k a
  | 0, _ => rfl
  | d + 1, a => by
    rw [← Nat.add_assoc, fr, if_neg (by simp), fr_stop d a]
theorem lexF_fr {n : Nat} {vals : Nat → Value} {a : Act} (hn : n ≤ ops.size) : ∀ i, i ≤ n → lexF (ops.toList.take n) vals i a = fr ops vals (fun j => decide (j < i)) ops.size a := by
  intro i hi
  obtain ⟨d, hd⟩ : ∃ d, ops.size = i + d := ⟨ops.size - i, by omega⟩
  rw [hd, fr_stop]
  clear hd d
  induction i with
  | zero => rfl
  | succ i ih =>
    rw [lexF, ih (by omega), fr, if_pos (by simp)]
    rw [fr_congr (l := fun j => decide (j < i + 1)) (l' := fun j => decide (j < i)) fun j hj => by simp [hj]; omega]
    congr 1
    unfold dstAt
    rw [List.getElem?_take_of_lt (by omega)]
    simp

def tailL (n m : Nat) : Array Bool := (List.replicate n true ++ List.replicate m false).toArray
/-- The tail stands in a fixed order behind the n first; or there is none. -/
def tailB (ops : Array Oper) (n : Nat) : Bool :=
  decide (n = ops.size) || (decide (n < ops.size) && Region.sinkB .any ops n && Region.chainB .any ops n && Region.seqB .any ops (ops.size - n) n (tailL n (ops.size - n)))

theorem region_core {id : Nat} {Q : Exit → Act → World → Prop} {Γ : Type} {C : Γ → Array Bool → World → Prop} {a : Act} {w : World} {l : List Oper} (n : Nat) (hm : P.follows .mixedOrders = true) (ht : tidy l.toArray = true) (hB : tailB l.toArray n = true)
    (γ0 : Γ) (hC : C γ0 (Array.replicate l.length false) w.drew) (vals : Γ → Nat → Value)
    (hs : ∀ i o, (l.take n)[i]? = some o → ∀ γ L w, L.size = l.length → i ∈ Region.ready .any l.toArray L → C γ L w →
      ∃ γ', (∀ j, L.getD j false = true → vals γ j = vals γ' j) ∧
      ((Region.wanted o (yielded l.toArray (lexF (l.take n) (vals γ) i a).tmps) = true ∧ Gives P o (lexF (l.take n) (vals γ) i a) w (vals γ' i) (C γ' (L.setIfInBounds i true))) ∨
      (Region.wanted o (yielded l.toArray (lexF (l.take n) (vals γ) i a).tmps) = false ∧ vals γ' i = undef ∧ C γ' (L.setIfInBounds i true) w)))
    (hq : ∀ γ L w', (∀ i, i < n → L.getD i false = true) → C γ L w' → wpList P l.toArray Q (l.drop n) (lexF (l.take n) (vals γ) (l.take n).length a) w') : (Code.region id l.toArray true).wp P Q a w := by
  refine wp_region_any hm ?_
  have hn : n ≤ l.toArray.size := by
    simp only [tailB, Bool.or_eq_true, Bool.and_eq_true, decide_eq_true_eq] at hB
    rcases hB with h | h <;> omega
  have hlen : (l.take n).length = n := by rw [List.length_take]; simp at hn; omega
  simp only [hlen] at hq
  have hfr : ∀ (γ : Γ) i, i ≤ n → lexF (l.take n) (vals γ) i a = fr l.toArray (vals γ) (fun j => decide (j < i)) l.toArray.size a := fun γ i hi => by
    have := lexF_fr (ops := l.toArray) (vals := vals γ) (a := a) hn i hi
    simpa using this
  have H := head_any (P := P) (ops := l.toArray) (n := n) (g := l.toArray.size - n) (Q := Q) (vals := vals) (C := C) (a0 := a) ht hn
    (fun k o hk ho γ L w' hsz _ hr hC' => by
      have hko : (l.take n)[k]? = some o := by rw [List.getElem?_take_of_lt hk]; simpa using ho
      have := hs k o hko γ L w' (by simpa using hsz) hr hC'
      rwa [hfr γ k (by omega)] at this)
    (fun L hL hcl htl i hi hun t hr => by
      obtain ⟨hunt, o, ho, _⟩ := mem_ready.1 hr
      have hto : t < l.toArray.size := (Array.getElem?_eq_some_iff.1 ho).1
      simp only [tailB, Bool.or_eq_true, Bool.and_eq_true, decide_eq_true_eq] at hB
      rcases hB with hB | ⟨⟨⟨hB1, hB2⟩, hB3⟩, _⟩
      · omega
      · rcases Nat.lt_or_ge t n with h | h
        · exact h
        · exact absurd hr (tail_waits hB2 hB3 hB1 ⟨hL, hcl, htl⟩ _ i rfl hi hun t h))
    (fun γ L w' hL hall htl hC' => by
      rw [← hfr γ n (Nat.le_refl n)]
      have hlist := hq γ L w' hall hC'
      have hLe : L = tailL n (l.toArray.size - n) := by
        apply Array.ext_getElem?
        intro j
        unfold tailL
        rw [show ((List.replicate n true ++ List.replicate (l.toArray.size - n) false).toArray)[j]? = (List.replicate n true ++ List.replicate (l.toArray.size - n) false)[j]? from List.getElem?_toArray .., List.getElem?_append]
        simp only [List.length_replicate]
        by_cases hj : j < n
        · have := hall j hj
          rw [if_pos hj]
          simp [show j < L.size by omega] at this
          simp [hj, show j < L.size by omega, this]
        · rw [if_neg hj]
          by_cases hj2 : j < l.toArray.size
          · have := htl j (by omega) hj2
            simp [show j < L.size by omega] at this
            rw [Array.getElem?_eq_getElem (by omega), this, List.getElem?_replicate, if_pos (by omega)]
          · rw [Array.getElem?_eq_none (by omega), List.getElem?_replicate, if_neg (by omega)]
      simp only [tailB, Bool.or_eq_true, Bool.and_eq_true, decide_eq_true_eq] at hB
      rcases hB with hB | ⟨⟨⟨hB1, hB2⟩, hB3⟩, hB4⟩
      · rw [show l.toArray.size - n = 0 by omega]
        have hd : l.drop n = [] := List.drop_eq_nil_of_le (by simp at hB; omega)
        rw [hd] at hlist
        refine ⟨?_, hlist⟩
        apply List.eq_nil_iff_forall_not_mem.2
        intro t hr
        obtain ⟨hunt, o, ho, _⟩ := mem_ready.1 hr
        have hto : t < l.toArray.size := (Array.getElem?_eq_some_iff.1 ho).1
        have := hall t (by omega)
        rw [getD_both hunt] at this
        cases this
      · have hdl : (l.drop n).length = l.toArray.size - n := by simp
        have := wpAny_of_seq (P := P) (ops := l.toArray) (md := .any) (Q' := Q) (l.drop n) n L _ w' (fun j => by simp [List.getElem?_drop]) (by rw [hdl, hLe]; exact hB4) hlist
        rwa [hdl] at this)
    (cnt n (Array.replicate l.toArray.size false)) γ0 (Array.replicate l.toArray.size false) w.drew (by simp) (fun j o _ hl => by rw [getD_replicate_false] at hl; cases hl)
    (fun t _ hts => getD_in (by simpa using hts) (getD_replicate_false _ _)) rfl (by simpa using hC)
  have hc : cnt n (Array.replicate l.toArray.size false) = n := by
    unfold cnt
    have : ∀ i ∈ List.range n, (!(Array.replicate l.toArray.size false).getD i true) = true := fun i hi => by
      have hi' := List.mem_range.1 hi
      have : i < l.length := by simp at hn; omega
      simp [this]
    rw [List.countP_eq_length.2 this, List.length_range]
  rw [hc, show n + (l.toArray.size - n) = l.toArray.size by omega] at H
  have hz : fr l.toArray (vals γ0) (fun j => (Array.replicate l.toArray.size false).getD j false) l.toArray.size a = a := by
    rw [fr_congr (l' := fun j => decide (j < 0)) fun j _ => by rw [getD_replicate_false]; simp]
    have := fr_stop (ops := l.toArray) (vals := vals γ0) (k := 0) l.toArray.size a
    rw [Nat.zero_add] at this
    exact this
  rw [hz] at H
  exact H
theorem wp_region_tail {id : Nat} {Q : Exit → Act → World → Prop} {C : World → Prop} {a : Act} {w : World} {l : List Oper} (n : Nat) (hm : P.follows .mixedOrders = true) (ht : tidy l.toArray = true) (hB : tailB l.toArray n = true)
    (hC : C w.drew) (h : wpK P l.toArray C (fun a' => ∀ w', C w' → wpList P l.toArray Q (l.drop n) a' w') (l.take n) a) : (Code.region id l.toArray true).wp P Q a w := by
  obtain ⟨vals, hq, hs⟩ := wpK_vals _ _ h
  refine region_core (Γ := Unit) (C := fun _ _ w => C w) n hm ht hB () hC (fun _ => vals) (fun i o hi γ L w _ _ hC' => ⟨(), fun _ _ => rfl, ?_⟩) (fun _ L w' _ hC' => hq w' hC')
  rcases hs i o hi with ⟨h1, h2⟩ | ⟨h1, h2⟩
  · exact .inl ⟨h1, h2 w hC'⟩
  · exact .inr ⟨h1, h2, hC'⟩

/-! ### One operation among them writes: ahead of it the worlds are of 'C false', behind it of 'C true' -/
def wpS (P : Program) (ops : Array Oper) (s : Nat) (C : Bool → World → Prop) (Q : Act → Prop) : Nat → List Oper → Act → Prop
  | _, [], a => Q a
  | k, o :: rest, a => ∃ v, ((Region.wanted o (yielded ops a.tmps) = true ∧ ((k = s ∧ ∀ w, C false w → Gives P o a w v (C true)) ∨ (k ≠ s ∧ ∀ b w, C b w → Gives P o a w v (C b)))) ∨
      (Region.wanted o (yielded ops a.tmps) = false ∧ k ≠ s ∧ v = undef)) ∧ wpS P ops s C Q (k + 1) rest (a.put o.dst v)
section
variable {C : Bool → World → Prop} {Qk : Act → Prop} {o : Oper} {rest : List Oper} {a : Act} {v : Value} {k s : Nat}
theorem wpS_nil (h : Qk a) : wpS P ops s C Qk k [] a := h
theorem wpS_val (hk : k ≠ s) (hw : Region.wanted o (yielded ops a.tmps) = true) (h1 : ∀ b w, C b w → Gives P o a w v (C b)) (h2 : wpS P ops s C Qk (k + 1) rest (a.put o.dst v)) : wpS P ops s C Qk k (o :: rest) a :=
  ⟨v, .inl ⟨hw, .inr ⟨hk, h1⟩⟩, h2⟩
theorem wpS_put (hk : k = s) (hw : Region.wanted o (yielded ops a.tmps) = true) (h1 : ∀ w, C false w → Gives P o a w v (C true)) (h2 : wpS P ops s C Qk (k + 1) rest (a.put o.dst v)) : wpS P ops s C Qk k (o :: rest) a :=
  ⟨v, .inl ⟨hw, .inl ⟨hk, h1⟩⟩, h2⟩
end
theorem wpS_vals {s : Nat} {C : Bool → World → Prop} {Qk : Act → Prop} : ∀ (l : List Oper) (k : Nat) (a : Act), wpS P ops s C Qk k l a → ∃ vals : Nat → Value, Qk (lexF l vals l.length a) ∧
    ∀ i o, l[i]? = some o → ((Region.wanted o (yielded ops (lexF l vals i a).tmps) = true ∧ ((k + i = s ∧ ∀ w, C false w → Gives P o (lexF l vals i a) w (vals i) (C true)) ∨ (k + i ≠ s ∧ ∀ b w, C b w → Gives P o (lexF l vals i a) w (vals i) (C b)))) ∨
      (Region.wanted o (yielded ops (lexF l vals i a).tmps) = false ∧ k + i ≠ s ∧ vals i = undef))
  | [], _, a, h => ⟨fun _ => undef, h, fun i o hi => by simp at hi⟩
  | o :: l, k, a, h => by
    obtain ⟨v, h1, h2⟩ := h
    obtain ⟨vals, hq, hs⟩ := wpS_vals l (k + 1) _ h2
    refine ⟨fun j => match j with | 0 => v | j + 1 => vals j, ?_, fun i o' hi => ?_⟩
    · rw [List.length_cons, lexF_cons]; exact hq
    · cases i with
      | zero =>
        simp only [List.getElem?_cons_zero, Option.some.injEq] at hi
        subst hi
        exact h1
      | succ i =>
        rw [lexF_cons, show k + (i + 1) = k + 1 + i by omega]
        exact hs i o' (by simpa using hi)
theorem wp_region_put {id : Nat} {Q : Exit → Act → World → Prop} {C : Bool → World → Prop} {a : Act} {w : World} {l : List Oper} (s n : Nat) (hsn : s < n) (hm : P.follows .mixedOrders = true) (ht : tidy l.toArray = true) (hB : tailB l.toArray n = true)
    (hC : C false w.drew) (h : wpS P l.toArray s C (fun a' => ∀ w', C true w' → wpList P l.toArray Q (l.drop n) a' w') 0 (l.take n) a) : (Code.region id l.toArray true).wp P Q a w := by
  obtain ⟨vals, hq, hs⟩ := wpS_vals _ _ _ h
  have hset : ∀ (L : Array Bool) i, i ≠ s → (L.setIfInBounds i true).getD s false = L.getD s false := fun L i hi => getD_set_ne false hi
  refine region_core (Γ := Unit) (C := fun _ L w => C (L.getD s false) w) n hm ht hB () (by rw [getD_replicate_false]; exact hC) (fun _ => vals) (fun i o hi γ L w hsz hr hC' => ⟨(), fun _ _ => rfl, ?_⟩) (fun _ L w' hall hC' => hq w' (by rw [hall s hsn] at hC'; exact hC'))
  rcases hs i o hi with ⟨h1, ⟨h2, h3⟩ | ⟨h2, h3⟩⟩ | ⟨h1, h2, h3⟩
  · rw [Nat.zero_add] at h2
    subst h2
    have hun := getD_both (mem_ready.1 hr).1
    have hio := (mem_ready.1 hr).2
    obtain ⟨o', ho', _⟩ := hio
    have hlt : i < L.size := by
      have := (Array.getElem?_eq_some_iff.1 ho').1
      simp at this; omega
    have e1 : (L.setIfInBounds i true).getD i false = true := by simp [hlt]
    simp only [hun] at hC'
    simp only [e1]
    exact .inl ⟨h1, h3 w hC'⟩
  · rw [Nat.zero_add] at h2
    simp only [hset L i h2]
    exact .inl ⟨h1, h3 _ w hC'⟩
  · rw [Nat.zero_add] at h2
    simp only [hset L i h2]
    exact .inr ⟨h1, h3, hC'⟩
end
end Go.Proofs.Ytfnepbkgmopjcaa
