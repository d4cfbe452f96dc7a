/-
  Contract of the document's tag (casemateref04.Of) over this translation.
  Contracts of casemateref17.Tag and Join.
  Rows of bytes loaded and stored in a region in which several operations write.
  Contract of casemateref17.Split: a region that draws its order, in which two rows are loaded and two are stored.
  A region that draws its order, whose values may hang on the order (addresses of what it makes): of each operation's value one states what it is like (S, of no world) and what the world then holds of it and of those it waits for (D, kept by what the others do: K).
  An append leaves the slice that it was given as it was; the append in a region that draws its order.
  As XRegRel; what the world holds of a value is kept by those operations alone that it does not wait for.
  A region that draws its order, whose values may hang on the order and on what a call makes of the world: of each operation's value one states what it is like (S), what the world then holds of it (D, kept by what the others do: K), and which operations have come up (C).
  Rows of bytes of any type compared; loaded, in regions whose values hang on their order.
  Regions whose values hang on their order: what each operation yields as a list of known values, and slices of known bytes wherever they lie.
  Contracts of casemateref17.Leaf, Node, Label, Head and Body: a message laid and its tag.
  What the program's tags answer, as hypotheses of the laws: TagC, beside LeafC, RestC, JoinC. (The landed code's proof of them: another text.)
  Trees of tags in plain numbers: no text of the program.
  Lists of ints of the call's own.
  The document's Power and Path (casemateref18).
  Lists of elements of k cells each: as they lie in memory, and as a list of the call's own. Worlds in which only blocks of a set are turned.
  Rows of sectors in one block: a slice literal of sectors; what lies in such a block.
  Structs of any fields: built out of all their fields.
  Regions whose values hang on their order: known values, and operations whose value is only known to be of a kind, with what the world holds of it.
  Lists of elements: a literal of one element; a struct's literal; one element that stands in a new block.
-/
import Derived.Test.YtdmnhpgafbcehaaDoorMrg4
import Derived.Laws.BitsAllLaws
import Derived.Laws.AppendOwn
import Derived.Laws.AppendOwnNone
import Derived.Great.BuildSlice
set_option linter.unusedVariables false
set_option linter.unusedSimpArgs false
set_option maxRecDepth 100000
namespace Go.Proofs.YtdmnhpgafbcehaaDoor
open Go.ChangeShapes Go.WideShapes Go.ChangeAt Go.RowKit
attribute [local go_sem] Gives
end Go.Proofs.YtdmnhpgafbcehaaDoor
set_option maxRecDepth 100000
namespace Go.Proofs.YtdmnhpgafbcehaaDoor
open Go.ChangeShapes Go.WideShapes Go.ChangeAt Go.RowKit
attribute [local go_sem] Gives
namespace TgP
/-- Behind i rounds. -/
def joinTo (i : Nat) (f g : Nat → Nat) (j : Nat) : Nat := if j < i then f j else if 32 ≤ j ∧ j < 32 + i then g (j - 32) else 0
end TgP
end Go.Proofs.YtdmnhpgafbcehaaDoor
set_option maxRecDepth 100000
namespace Go.Proofs.YtdmnhpgafbcehaaDoor
open Go.ChangeShapes Go.WideShapes Go.ChangeAt Go.RowKit
attribute [local go_sem] Gives
namespace TgP
section
variable {ops : Array Oper} {a : Act} {rest : List Oper} {dst : Option Tmp} {ty : TypeId} {pos : String} {after : Array Edge} {x y : Operand} {g o n k : Nat} {f : Nat → Nat} {T : TypeId} {st : Nat → Bool} {D : (Nat → Bool) → World → Prop} {Qk : Act → Prop} {gd : Option (Nat × Bool)}
theorem mld (hT : ArT T n) (hk : st k = false) (hwt : Region.wanted ⟨dst, .load T x, ty, pos, after, gd⟩ (yielded ops a.tmps) = true) (hx : a.eval x = .pointer (some ⟨g, o, none⟩)) (hb : ∀ d w, D d w → w.rangeAt g o (ar n f).toList) (h : wpM Tryd.prog ops st D Qk (k + 1) rest (a.put dst (.agg (ar n f)))) :
    wpM Tryd.prog ops st D Qk k (⟨dst, .load T x, ty, pos, after, gd⟩ :: rest) a :=
  wpM_val hk hwt (fun d w hw => gives_value (w' := w) (by simp only [execOp, hx, Sem.run_bind, run_ldm hT (hb d w hw), Result.andThen_ok, Sem.run_pure]) hw) h
theorem mst {t : TypeId} (hT : ArT T n) (hk : st k = true) (hwt : Region.wanted ⟨dst, .store T x y, ty, pos, after, gd⟩ (yielded ops a.tmps) = true) (hx : a.eval x = .pointer (some ⟨g, 0, none⟩)) (hy : a.eval y = .agg (ar n f))
    (hb : ∀ d w, d k = false → D d w → ∃ f0, Blk w g t (ar n f0)) (hD : ∀ d w, d k = false → D d w → D (upB d k) (w.setRow g (ar n f))) (h : wpM Tryd.prog ops st D Qk (k + 1) rest (a.put dst undef)) :
    wpM Tryd.prog ops st D Qk k (⟨dst, .store T x y, ty, pos, after, gd⟩ :: rest) a :=
  wpM_put hk hwt (fun d w hd hw => gives_skip (w' := w.setRow g (ar n f)) (by
    obtain ⟨f0, hb0⟩ := hb d w hd hw
    have := run_storeVar_row (P := Tryd.prog) w g t T (ar n f0) (ar n f) hb0 (hT.size.trans (by rw [size_ar])) (by rw [size_ar, size_ar]) ar_one
    simp only [execOp, hx, hy, Instr.storeAt, Instr.sureAddr, Sem.run_bind, this, Result.andThen_ok, Sem.run_pure]) (hD d w hd hw)) h
end
end TgP
end Go.Proofs.YtdmnhpgafbcehaaDoor
set_option maxRecDepth 100000
namespace Go.Proofs.YtdmnhpgafbcehaaDoor
open Go.ChangeShapes Go.WideShapes Go.ChangeAt Go.RowKit
attribute [local go_sem] Gives
namespace TgP
/-- Two tags laid as a call's answers. -/
def T2 (g0 g1 g2 g3 : Nat) (B : Nat) (w : World) (K F : Nat → Nat) (d : Nat → Bool) (w' : World) : Prop :=
  Blk w' g2 36 (ar 32 K) ∧ Blk w' g3 36 (ar 32 F) ∧ Blk w' g0 36 (ar 32 (if d 2 then K else fun _ => 0)) ∧ Blk w' g1 36 (ar 32 (if d 3 then F else fun _ => 0)) ∧ Below B w w'
end TgP
end Go.Proofs.YtdmnhpgafbcehaaDoor
set_option maxRecDepth 100000
namespace Go.Proofs.YtdmnhpgafbcehaaDoor
open Go.RowKit
section
variable {P : Program} {ops : Array Oper}
def updV (vs : Nat → Value) (i : Nat) (v : Value) : Nat → Value := fun j => if j = i then v else vs j
theorem updV_self (vs : Nat → Value) (i : Nat) (v : Value) : updV vs i v i = v := if_pos rfl
theorem updV_ne (vs : Nat → Value) {i j : Nat} (v : Value) (h : j ≠ i) : updV vs i v j = vs j := if_neg h
/-- The operations in the order of the text, the k-th first. -/
def wpR (P : Program) (ops : Array Oper) (S : Nat → Value → Prop) (D : Nat → (Nat → Value) → World → Prop) (K : Nat → (Nat → Value) → World → World → Prop) (C : World → Prop) (Q : (Nat → Value) → Act → Prop) : Nat → (Nat → Value) → List Oper → Act → Prop
  | _, vs, [], a => Q vs a
  | k, vs, o :: rest, a => ((Region.wanted o (yielded ops a.tmps) = true ∧ ∀ w, C w → (∀ j, Region.waitsFor .any ops k j = true → D j vs w) →
      ∃ v, S k v ∧ Gives P o a w v fun w' => C w' ∧ K k vs w w' ∧ D k (updV vs k v) w') ∨
      (Region.wanted o (yielded ops a.tmps) = false ∧ S k undef ∧ ∀ w, D k (updV vs k undef) w)) ∧ (S k (vs k) → wpR P ops S D K C Q (k + 1) vs rest (a.put o.dst (vs k)))
theorem waits_ready {L : Array Bool} {i j : Nat} (hr : i ∈ Region.ready .any ops L) (hw : Region.waitsFor .any ops i j = true) : L.getD j false = true := by
  obtain ⟨hun, o, ho, hall⟩ := mem_ready.1 hr
  obtain ⟨o2, ho2, e2, he2, hb2, hon⟩ := Region.waitsFor_spec hw
  obtain rfl : o = o2 := Option.some.inj (ho.symm.trans ho2)
  have h1 := hall e2 he2 hb2
  rw [hon] at h1
  exact h1
theorem waits_closed {L : Array Bool} {i j : Nat} (hc : Closed ops L) (hl : L.getD i false = true) (hw : Region.waitsFor .any ops i j = true) : L.getD j false = true := by
  obtain ⟨o2, ho2, e2, he2, hb2, hon⟩ := Region.waitsFor_spec hw
  have := hc i o2 ho2 hl e2 he2 hb2
  rw [hon] at this
  exact this
end
end Go.Proofs.YtdmnhpgafbcehaaDoor
set_option maxRecDepth 100000
namespace Go.Proofs.YtdmnhpgafbcehaaDoor
open Go.ChangeShapes Go.WideShapes Go.ChangeAt Go.RowKit
section
variable {a : Act} {w : World} {dst : Option Tmp} {ty : TypeId} {pos : String} {after : Array Edge} {gd : Option (Nat × Bool)} {s x : Operand} {m c B B' : Nat} {v : Value} {l kk : List Nat} {S e : TypeId} {k : IntKind} {ad : Addr}
end
end Go.Proofs.YtdmnhpgafbcehaaDoor
set_option maxRecDepth 100000
namespace Go.Proofs.YtdmnhpgafbcehaaDoor
open Go.ChangeShapes Go.WideShapes Go.ChangeAt Go.RowKit
/-- An append to a slice leaves any other slice of the call's own that is no longer as it was, even in the same row. -/
theorem Own.beside {e : TypeId} {k : IntKind} {w w' : World} {B B2 : Nat} {v u : Value} {l m : List Nat} (h : Own e k w B v l) (hu : Own e k w B2 u m) (hg : w.grownBy w' u.ownBlock) (hu' : Own e k w' B2 u m) (hlm : l.length ≤ m.length) : Own e k w' B v l := by
  by_cases hne : Apart v u
  · exact h.keep hg hne
  · rcases h.2 with ⟨rfl, h0⟩ | ⟨g, cap, cur, rfl, hB, hgc, hnc, hcm, hcs, ht⟩
    · rw [List.eq_nil_of_length_eq_zero h0]
      exact Own.nil
    · rcases hu.2 with ⟨rfl, _⟩ | ⟨g2, cap2, cur2, rfl, hB2, hgc2, hnc2, hcm2, hcs2, ht2⟩
      · exact absurd (Apart.nil _) hne
      · have hgg : g2 = g := by
          by_cases e' : g2 = g
          · exact e'
          · exact absurd (fun x hx hx2 => e' (by
              have h1 : g = x := Option.some.inj hx
              have h2 : g2 = x := Option.some.inj hx2
              rw [h1, h2])) hne
        subst hgg
        rw [hgc] at hgc2
        cases hgc2
        rcases hu'.2 with ⟨e', _⟩ | ⟨g3, cap3, cur3, hv3, hB3, hgc3, hnc3, hcm3, hcs3, ht3⟩
        · cases e'
        · simp only [Value.slice.injEq, Option.some.injEq, Addr.mk.injEq, and_true] at hv3
          obtain ⟨rfl, _, rfl⟩ := hv3
          have hcap : cap2 = cap := by omega
          subst hcap
          refine ⟨h.1, .inr ⟨_, _, cur3, rfl, hB, hgc3, hnc, hcm, hcs3, ?_⟩⟩
          rw [Nat.mul_one] at ht ht2 ht3 ⊢
          have h3 : (cur3.toList.take m.length).take l.length = (cur.toList.take m.length).take l.length := by rw [ht3, ht2]
          rw [List.take_take, List.take_take, Nat.min_eq_left hlm, ht] at h3
          exact h3
section
variable {P : Program} {ops : Array Oper}
end
end Go.Proofs.YtdmnhpgafbcehaaDoor
set_option maxRecDepth 100000
namespace Go.Proofs.YtdmnhpgafbcehaaDoor
open Go.RowKit
/-- One operation, carried out in the world w; R holds of what it yields and of the world behind it. -/
def GivesE (P : Program) (o : Oper) (a : Act) (w : World) (R : Value → World → Prop) : Prop :=
  match (execOp a.eval o).run P w with
  | .ok (.value u) w' => R u w'
  | .ok .skip w' => R undef w'
  | .ok (.enter f args) w' => Calls P f args w' fun e w'' => ∃ v, e = .returned v ∧ R v w''
  | _ => False
theorem wp_of_givesE {P : Program} {o : Oper} {a : Act} {w : World} {R : Value → World → Prop} {K : Act → World → Prop} {Q : Exit → Act → World → Prop}
    (h : GivesE P o a w R) (hK : ∀ v w', R v w' → K (a.put o.dst v) w') : o.wp P a w K Q := by
  unfold GivesE at h
  unfold Oper.wp
  generalize (execOp a.eval o).run P w = r at *
  cases r with
  | ok n w' =>
    cases n <;> simp only at h <;> simp only [Oper.upon]
    case value u => exact hK _ _ h
    case skip => exact hK _ _ h
    case enter f args => exact h.mono fun e w'' ⟨v, he, hr⟩ => by subst he; exact hK _ _ hr
  | halt x w' => cases h
theorem givesE_mono {P : Program} {o : Oper} {a : Act} {w : World} {R R' : Value → World → Prop} (h : GivesE P o a w R) (hr : ∀ v w', R v w' → R' v w') : GivesE P o a w R' := by
  unfold GivesE at *
  generalize (execOp a.eval o).run P w = r at *
  cases r with
  | ok n w' =>
    cases n <;> simp only at h ⊢
    case value u => exact hr _ _ h
    case skip => exact hr _ _ h
    case enter f args => exact h.mono fun e w'' ⟨v, he, hR⟩ => ⟨v, he, hr _ _ hR⟩
  | halt x w' => exact h
section
variable {P : Program} {ops : Array Oper}
/-- The head of a region: the first n operations, in whatever order; behind them the tail. -/
theorem head_anyE {Γ : Type} {n g : Nat} {Q : Exit → Act → World → Prop} {vals : Γ → Nat → Value} {C : Γ → Array Bool → World → Prop} {a0 : Act} (ht : tidy ops = true) (hn : n ≤ ops.size)
    (hstep : ∀ k o, k < n → ops[k]? = some o → ∀ γ L w, L.size = ops.size → Closed ops L → k ∈ Region.ready .any ops L → C γ L w →
      ((Region.wanted o (yielded ops (fr ops (vals γ) (fun j => decide (j < k)) ops.size a0).tmps) = true ∧ GivesE P o (fr ops (vals γ) (fun j => decide (j < k)) ops.size a0) w (fun v w' => ∃ γ', (∀ j, L.getD j false = true → vals γ j = vals γ' j) ∧ vals γ' k = v ∧ C γ' (L.setIfInBounds k true) w')) ∨
      (Region.wanted o (yielded ops (fr ops (vals γ) (fun j => decide (j < k)) ops.size a0).tmps) = false ∧ ∃ γ', (∀ j, L.getD j false = true → vals γ j = vals γ' j) ∧ vals γ' k = undef ∧ C γ' (L.setIfInBounds k true) w)))
    (hsink : ∀ L, L.size = ops.size → Closed ops L → (∀ t, n ≤ t → t < ops.size → L.getD t true = false) → ∀ i, i < n → L.getD i true = false → ∀ t ∈ Region.ready .any ops L, t < n)
    (htail : ∀ γ L w, L.size = ops.size → (∀ i, i < n → L.getD i false = true) → (∀ t, n ≤ t → t < ops.size → L.getD t true = false) → C γ L w →
      wpAny P .any ops Q g L (fr ops (vals γ) (fun j => decide (j < n)) ops.size a0) w) :
    ∀ (f : Nat) (γ : Γ) (L : Array Bool) (w : World), L.size = ops.size → Closed ops L → (∀ t, n ≤ t → t < ops.size → L.getD t true = false) → cnt n L = f → C γ L w →
      wpAny P .any ops Q (f + g) L (fr ops (vals γ) (fun j => L.getD j false) ops.size a0) w
  | 0, γ, L, w, hs, hcl, htl, hc, hC => by
    have hall : ∀ i, i < n → L.getD i false = true := fun i hi => by
      have h1 : ∀ j ∈ List.range n, ¬ (!L.getD j true) = true := List.countP_eq_zero.1 hc
      have h2 := h1 i (List.mem_range.2 hi)
      exact getD_up (by omega) (by simpa using h2)
    rw [Nat.zero_add, fr_congr (l' := fun j => decide (j < n)) fun j hj => ?_]
    · exact htail γ L w hs hall htl hC
    · by_cases hjn : j < n
      · rw [hall j hjn]; simp [hjn]
      · rw [getD_both (htl j (by omega) hj)]; simp [hjn]
  | f + 1, γ, L, w, hs, hcl, htl, hc, hC => by
    rw [show f + 1 + g = (f + g) + 1 by omega]
    -- the least that has not come up may come up
    have hex : ∃ i, i < n ∧ L.getD i true = false := by
      have hpos : 0 < (List.range n).countP fun i => !L.getD i true := by unfold cnt at hc; omega
      obtain ⟨i, hi, h1⟩ := List.countP_pos_iff.1 hpos
      exact ⟨i, List.mem_range.1 hi, by simpa using h1⟩
    have hready : ∃ i, i ∈ Region.ready .any ops L := by
      obtain ⟨i, hi, hun⟩ := hex
      induction i using Nat.strongRecOn with
      | _ i ih =>
        by_cases hless : ∃ j, j < i ∧ L.getD j true = false
        · obtain ⟨j, hj, hjun⟩ := hless
          exact ih j hj (by omega) hjun
        · have hio : i < ops.size := by omega
          refine ⟨i, mem_ready.2 ⟨hun, ops[i], Array.getElem?_eq_getElem hio, fun e he hb => ?_⟩⟩
          have hlt := tidy_edge ht (Array.getElem?_eq_getElem hio) e he hb
          refine getD_up (by omega) ?_
          cases h0 : L.getD e.on true with
          | true => rfl
          | false => exact absurd ⟨e.on, hlt, h0⟩ hless
    obtain ⟨i0, hi0, hun0⟩ := hex
    refine ⟨fun h0 => (by obtain ⟨i, hi⟩ := hready; rw [h0] at hi; cases hi), fun i hi => ?_⟩
    have hin : i < n := hsink L hs hcl htl i0 hi0 hun0 i hi
    obtain ⟨hun, o, ho, _⟩ := mem_ready.1 hi
    have hio : i < ops.size := by omega
    obtain ⟨hex1, hex2⟩ := exec_same (vals := vals γ) (n := ops.size) (a := a0) ht ho hcl hi
    have hst := hstep i o hin ho γ L w hs hcl hi hC
    have hnext : ∀ γ' w', (∀ j, L.getD j false = true → vals γ j = vals γ' j) → C γ' (L.setIfInBounds i true) w' → wpAny P .any ops Q (f + g) (L.setIfInBounds i true) ((fr ops (vals γ) (fun j => L.getD j false) ops.size a0).put o.dst (vals γ' i)) w' := fun γ' w' hag hC' => by
      have ih := head_anyE (g := g) (Q := Q) ht hn hstep hsink htail f γ' (L.setIfInBounds i true) w' (by simpa using hs) (closed_set hcl hi) (fun t h1 h2 => by rw [getD_set_ne true (by omega)]; exact htl t h1 h2)
        (by
          have h1 : cnt n (L.setIfInBounds i true) + 1 = cnt n L := by
            refine countP_one (i := i) (by simpa using hun) ?_ (fun j hj => by rw [getD_set_ne true (Ne.symm hj)]) List.nodup_range (List.mem_range.2 hin)
            simp [show i < L.size by omega]
          omega) hC'
      rw [fr_congr (l' := fun j => L.getD j false || j == i) fun j _ => ?_, fr_set ht (getD_both hun) hio, ← fr_vals fun j _ hj => hag j hj] at ih
      · unfold dstAt at ih; rw [ho] at ih; exact ih
      · by_cases e : j = i
        · subst e; simp [show j < L.size by omega]
        · have : (j == i) = false := by simpa using e
          rw [getD_set_ne false (Ne.symm e), this, Bool.or_false]
    unfold wpOp
    simp only [ho]
    rcases hst with ⟨hw, hg⟩ | ⟨hw, γ', hag, hv, hC'⟩
    · rw [hex2, if_pos hw]
      refine .inl (wp_of_givesE (R := fun v w' => ∃ γ', (∀ j, L.getD j false = true → vals γ j = vals γ' j) ∧ vals γ' i = v ∧ C γ' (L.setIfInBounds i true) w') ?_ fun v w' ⟨γ', hag, hv, hC'⟩ => by rw [← hv]; exact hnext γ' w' hag hC')
      unfold GivesE at hg ⊢
      rw [hex1]; exact hg
    · rw [hex2, hw, if_neg (by simp)]
      rw [← hv]
      exact hnext γ' w hag hC'

theorem region_coreE {id : Nat} {Q : Exit → Act → World → Prop} {Γ : Type} {C : Γ → Array Bool → World → Prop} {a : Act} {w : World} {l : List Oper} (n : Nat) (hm : P.follows .mixedOrders = true) (ht : tidy l.toArray = true) (hB : tailB l.toArray n = true)
    (γ0 : Γ) (hC : C γ0 (Array.replicate l.length false) w.drew) (vals : Γ → Nat → Value)
    (hs : ∀ i o, (l.take n)[i]? = some o → ∀ γ L w, L.size = l.length → i ∈ Region.ready .any l.toArray L → C γ L w →
      ((Region.wanted o (yielded l.toArray (lexF (l.take n) (vals γ) i a).tmps) = true ∧ GivesE P o (lexF (l.take n) (vals γ) i a) w (fun v w' => ∃ γ', (∀ j, L.getD j false = true → vals γ j = vals γ' j) ∧ vals γ' i = v ∧ C γ' (L.setIfInBounds i true) w')) ∨
      (Region.wanted o (yielded l.toArray (lexF (l.take n) (vals γ) i a).tmps) = false ∧ ∃ γ', (∀ j, L.getD j false = true → vals γ j = vals γ' j) ∧ vals γ' i = undef ∧ C γ' (L.setIfInBounds i true) w)))
    (hq : ∀ γ L w', (∀ i, i < n → L.getD i false = true) → C γ L w' → wpList P l.toArray Q (l.drop n) (lexF (l.take n) (vals γ) (l.take n).length a) w') : (Code.region id l.toArray true).wp P Q a w := by
  refine wp_region_any hm ?_
  have hn : n ≤ l.toArray.size := by
    simp only [tailB, Bool.or_eq_true, Bool.and_eq_true, decide_eq_true_eq] at hB
    rcases hB with h | h <;> omega
  have hlen : (l.take n).length = n := by rw [List.length_take]; simp at hn; omega
  simp only [hlen] at hq
  have hfr : ∀ (γ : Γ) i, i ≤ n → lexF (l.take n) (vals γ) i a = fr l.toArray (vals γ) (fun j => decide (j < i)) l.toArray.size a := fun γ i hi => by
    have := lexF_fr (ops := l.toArray) (vals := vals γ) (a := a) hn i hi
    simpa using this
  have H := head_anyE (P := P) (ops := l.toArray) (n := n) (g := l.toArray.size - n) (Q := Q) (vals := vals) (C := C) (a0 := a) ht hn
    (fun k o hk ho γ L w' hsz _ hr hC' => by
      have hko : (l.take n)[k]? = some o := by rw [List.getElem?_take_of_lt hk]; simpa using ho
      have := hs k o hko γ L w' (by simpa using hsz) hr hC'
      rwa [hfr γ k (by omega)] at this)
    (fun L hL hcl htl i hi hun t hr => by
      obtain ⟨hunt, o, ho, _⟩ := mem_ready.1 hr
      have hto : t < l.toArray.size := (Array.getElem?_eq_some_iff.1 ho).1
      simp only [tailB, Bool.or_eq_true, Bool.and_eq_true, decide_eq_true_eq] at hB
      rcases hB with hB | ⟨⟨⟨hB1, hB2⟩, hB3⟩, _⟩
      · omega
      · rcases Nat.lt_or_ge t n with h | h
        · exact h
        · exact absurd hr (tail_waits hB2 hB3 hB1 ⟨hL, hcl, htl⟩ _ i rfl hi hun t h))
    (fun γ L w' hL hall htl hC' => by
      rw [← hfr γ n (Nat.le_refl n)]
      have hlist := hq γ L w' hall hC'
      have hLe : L = tailL n (l.toArray.size - n) := by
        apply Array.ext_getElem?
        intro j
        unfold tailL
        rw [show ((List.replicate n true ++ List.replicate (l.toArray.size - n) false).toArray)[j]? = (List.replicate n true ++ List.replicate (l.toArray.size - n) false)[j]? from List.getElem?_toArray .., List.getElem?_append]
        simp only [List.length_replicate]
        by_cases hj : j < n
        · have := hall j hj
          rw [if_pos hj]
          simp [show j < L.size by omega] at this
          simp [hj, show j < L.size by omega, this]
        · rw [if_neg hj]
          by_cases hj2 : j < l.toArray.size
          · have := htl j (by omega) hj2
            simp [show j < L.size by omega] at this
            rw [Array.getElem?_eq_getElem (by omega), this, List.getElem?_replicate, if_pos (by omega)]
          · rw [Array.getElem?_eq_none (by omega), List.getElem?_replicate, if_neg (by omega)]
      simp only [tailB, Bool.or_eq_true, Bool.and_eq_true, decide_eq_true_eq] at hB
      rcases hB with hB | ⟨⟨⟨hB1, hB2⟩, hB3⟩, hB4⟩
      · rw [show l.toArray.size - n = 0 by omega]
        have hd : l.drop n = [] := List.drop_eq_nil_of_le (by simp at hB; omega)
        rw [hd] at hlist
        refine ⟨?_, hlist⟩
        apply List.eq_nil_iff_forall_not_mem.2
        intro t hr
        obtain ⟨hunt, o, ho, _⟩ := mem_ready.1 hr
        have hto : t < l.toArray.size := (Array.getElem?_eq_some_iff.1 ho).1
        have := hall t (by omega)
        rw [getD_both hunt] at this
        cases this
      · have hdl : (l.drop n).length = l.toArray.size - n := by simp
        have := wpAny_of_seq (P := P) (ops := l.toArray) (md := .any) (Q' := Q) (l.drop n) n L _ w' (fun j => by simp [List.getElem?_drop]) (by rw [hdl, hLe]; exact hB4) hlist
        rwa [hdl] at this)
    (cnt n (Array.replicate l.toArray.size false)) γ0 (Array.replicate l.toArray.size false) w.drew (by simp) (fun j o _ hl => by rw [getD_replicate_false] at hl; cases hl)
    (fun t _ hts => getD_in (by simpa using hts) (getD_replicate_false _ _)) rfl (by simpa using hC)
  have hc : cnt n (Array.replicate l.toArray.size false) = n := by
    unfold cnt
    have : ∀ i ∈ List.range n, (!(Array.replicate l.toArray.size false).getD i true) = true := fun i hi => by
      have hi' := List.mem_range.1 hi
      have : i < l.length := by simp at hn; omega
      simp [this]
    rw [List.countP_eq_length.2 this, List.length_range]
  rw [hc, show n + (l.toArray.size - n) = l.toArray.size by omega] at H
  have hz : fr l.toArray (vals γ0) (fun j => (Array.replicate l.toArray.size false).getD j false) l.toArray.size a = a := by
    rw [fr_congr (l' := fun j => decide (j < 0)) fun j _ => by rw [getD_replicate_false]; simp]
    have := fr_stop (ops := l.toArray) (vals := vals γ0) (k := 0) l.toArray.size a
    rw [Nat.zero_add] at this
    exact this
  rw [hz] at H
  exact H

/-- The operations in the order of the text, the k-th first. -/
def wpE (P : Program) (ops : Array Oper) (S : Nat → Value → Prop) (D : Nat → (Nat → Value) → World → Prop) (K : Nat → (Nat → Value) → World → World → Prop) (C : (Nat → Bool) → World → Prop) (Q : (Nat → Value) → Act → Prop) : Nat → (Nat → Value) → List Oper → Act → Prop
  | _, vs, [], a => Q vs a
  | k, vs, o :: rest, a => ((Region.wanted o (yielded ops a.tmps) = true ∧ ∀ d w, d k = false → C d w → (∀ j, Region.waitsFor .any ops k j = true → D j vs w) →
      GivesE P o a w fun v w' => S k v ∧ C (upB d k) w' ∧ K k vs w w' ∧ D k (updV vs k v) w') ∨
      (Region.wanted o (yielded ops a.tmps) = false ∧ S k undef ∧ (∀ d w, C d w → C (upB d k) w) ∧ ∀ w, D k (updV vs k undef) w)) ∧ (S k (vs k) → wpE P ops S D K C Q (k + 1) vs rest (a.put o.dst (vs k)))
theorem wpE_at {S : Nat → Value → Prop} {D : Nat → (Nat → Value) → World → Prop} {K : Nat → (Nat → Value) → World → World → Prop} {C : (Nat → Bool) → World → Prop} {Qk : (Nat → Value) → Act → Prop} {vs : Nat → Value} (hS : ∀ j, S j (vs j)) : ∀ (l : List Oper) (k : Nat) (a : Act), wpE P ops S D K C Qk k vs l a →
    Qk vs (lexF l (fun i => vs (k + i)) l.length a) ∧ ∀ i o, l[i]? = some o →
      ((Region.wanted o (yielded ops (lexF l (fun i => vs (k + i)) i a).tmps) = true ∧ ∀ d w, d (k + i) = false → C d w → (∀ j, Region.waitsFor .any ops (k + i) j = true → D j vs w) →
        GivesE P o (lexF l (fun i => vs (k + i)) i a) w fun v w' => S (k + i) v ∧ C (upB d (k + i)) w' ∧ K (k + i) vs w w' ∧ D (k + i) (updV vs (k + i) v) w') ∨
      (Region.wanted o (yielded ops (lexF l (fun i => vs (k + i)) i a).tmps) = false ∧ S (k + i) undef ∧ (∀ d w, C d w → C (upB d (k + i)) w) ∧ ∀ w, D (k + i) (updV vs (k + i) undef) w))
  | [], k, a, h => ⟨h, fun i o hi => by simp at hi⟩
  | o :: l, k, a, h => by
    obtain ⟨h1, h2⟩ := h
    obtain ⟨hq, hs⟩ := wpE_at hS l (k + 1) _ (h2 (hS k))
    have e : (fun i => vs (k + 1 + i)) = fun i => vs (k + (i + 1)) := funext fun i => by rw [show k + 1 + i = k + (i + 1) by omega]
    rw [e] at hq hs
    refine ⟨?_, fun i o' hi => ?_⟩
    · rw [List.length_cons, lexF_cons]; exact hq
    · cases i with
      | zero =>
        simp only [List.getElem?_cons_zero, Option.some.injEq] at hi
        subst hi
        exact h1
      | succ i =>
        rw [lexF_cons, show k + (i + 1) = k + 1 + i by omega]
        exact hs i o' (by simpa using hi)
theorem wp_region_ex {id : Nat} {Q : Exit → Act → World → Prop} {C : (Nat → Bool) → World → Prop} {S : Nat → Value → Prop} {D : Nat → (Nat → Value) → World → Prop} {K : Nat → (Nat → Value) → World → World → Prop} {a : Act} {w : World} {l : List Oper} (n : Nat)
    (hm : P.follows .mixedOrders = true) (ht : tidy l.toArray = true) (hB : tailB l.toArray n = true)
    (v0 : Nat → Value) (h0 : ∀ j, S j (v0 j)) (hD : ∀ i j vs w w', i < n → j ≠ i → Region.waitsFor .any l.toArray j i = false → D j vs w → K i vs w w' → D j vs w')
    (hL : ∀ j i vs v w, j ≠ i → Region.waitsFor .any l.toArray j i = false → D j vs w → D j (updV vs i v) w)
    (hC : C (fun _ => false) w.drew)
    (h : ∀ vs : Nat → Value, wpE P l.toArray S D K C (fun vs a' => ∀ d w', (∀ k, k < n → d k = true) → C d w' → (∀ k, k < n → D k vs w') → wpList P l.toArray Q (l.drop n) a' w') 0 vs (l.take n) a) : (Code.region id l.toArray true).wp P Q a w := by
  refine region_coreE (Γ := {vs : Nat → Value // ∀ j, S j (vs j)}) (C := fun γ L w' => C (fun j => L.getD j false) w' ∧ Closed l.toArray L ∧ ∀ k, k < n → L.getD k false = true → D k γ.1 w') n hm ht hB ⟨v0, h0⟩
    ⟨by rw [show (fun j => (Array.replicate l.length false).getD j false) = fun _ => false from funext fun j => getD_replicate_false _ j]; exact hC, (fun j o _ hl => by rw [getD_replicate_false] at hl; cases hl), fun k _ hk => by rw [getD_replicate_false] at hk; cases hk⟩ (fun γ => γ.1) ?_ ?_
  · intro i o hi γ L w' hsz hr ⟨hC', hcl, hDs⟩
    have hin : i < n := by
      have := (List.getElem?_eq_some_iff.1 hi).1
      rw [List.length_take] at this; omega
    have hun := getD_both (mem_ready.1 hr).1
    have hlt : i < L.size := by
      obtain ⟨o', ho', _⟩ := (mem_ready.1 hr).2
      have := (Array.getElem?_eq_some_iff.1 ho').1
      simp at this; omega
    have hup : (fun j => (L.setIfInBounds i true).getD j false) = upB (fun j => L.getD j false) i := funext fun j => by
      unfold upB
      by_cases e : j = i
      · subst e; rw [if_pos rfl]; simp [hlt]
      · rw [if_neg e, getD_set_ne false (Ne.symm e)]
    have hcl2 := closed_set hcl hr
    have key := (wpE_at γ.2 (l.take n) 0 a (h γ.1)).2 i o hi
    simp only [Nat.zero_add] at key
    have hwait : ∀ j, Region.waitsFor .any l.toArray i j = true → D j γ.1 w' := fun j hj => by
      have h1 := waits_ready hr hj
      have hji : j < i := by
        obtain ⟨o2, ho2, e2, he2, hb2, hon⟩ := Region.waitsFor_spec hj
        have := tidy_edge ht ho2 e2 he2 hb2
        omega
      exact hDs j (by omega) h1
    have step : ∀ (v : Value) (w2 : World), C (upB (fun j => L.getD j false) i) w2 → (w2 = w' ∨ K i γ.1 w' w2) → D i (updV γ.1 i v) w2 →
        C (fun j => (L.setIfInBounds i true).getD j false) w2 ∧ Closed l.toArray (L.setIfInBounds i true) ∧ ∀ k, k < n → (L.setIfInBounds i true).getD k false = true → D k (updV γ.1 i v) w2 := fun v w2 hc hb hd => by
      refine ⟨by rw [hup]; exact hc, hcl2, fun k hk hL' => ?_⟩
      by_cases e : k = i
      · subst e; exact hd
      · rw [getD_set_ne false (Ne.symm e)] at hL'
        have hw : Region.waitsFor .any l.toArray k i = false := by
          cases hx : Region.waitsFor .any l.toArray k i with
          | false => rfl
          | true =>
            have := waits_closed hcl hL' hx
            rw [hun] at this
            cases this
        refine hL k i _ v _ e hw ?_
        rcases hb with rfl | hb
        · exact hDs k hk hL'
        · exact hD i k _ _ _ hin e hw (hDs k hk hL') hb
    have upd : ∀ v, S i v → ∀ j, S j (updV γ.1 i v j) := fun v hv j => by
      by_cases e : j = i
      · subst e; rw [updV_self]; exact hv
      · rw [updV_ne _ _ e]; exact γ.2 j
    have keep : ∀ v j, L.getD j false = true → γ.1 j = updV γ.1 i v j := fun v j hj => by
      have : j ≠ i := fun e => by subst e; rw [hun] at hj; cases hj
      rw [updV_ne _ _ this]
    rcases key with ⟨k1, k2⟩ | ⟨k1, k2, k3, k4⟩
    · refine .inl ⟨k1, givesE_mono (k2 _ w' hun hC' hwait) fun v w2 ⟨h1, h2, h3, h4⟩ => ⟨⟨updV γ.1 i v, upd v h1⟩, keep v, updV_self _ _ _, step v w2 h2 (.inr h3) h4⟩⟩
    · exact .inr ⟨k1, ⟨updV γ.1 i undef, upd undef k2⟩, keep undef, updV_self _ _ _, step undef w' (k3 _ _ hC') (.inl rfl) (k4 w')⟩
  · intro γ L w' hall ⟨hC', _, hDs⟩
    have key := (wpE_at γ.2 (l.take n) 0 a (h γ.1)).1
    have ez : (fun i => γ.1 (0 + i)) = γ.1 := funext fun i => by rw [Nat.zero_add]
    rw [ez] at key
    exact key _ w' hall hC' fun k hk => hDs k hk (hall k hk)
end
end Go.Proofs.YtdmnhpgafbcehaaDoor
set_option maxRecDepth 100000
namespace Go.Proofs.YtdmnhpgafbcehaaDoor
open Go.ChangeShapes Go.WideShapes Go.ChangeAt Go.RowKit
attribute [local go_sem] Gives GivesE
theorem gE_ldA {a : Act} {w : World} {dst : Option Tmp} {ty : TypeId} {pos : String} {after : Array Edge} {x : Operand} {g o n : Nat} {f : Nat → Nat} {T : TypeId} {gd : Option (Nat × Bool)} {R : Value → World → Prop} (hT : ArT T n) (hx : a.eval x = .pointer (some ⟨g, o, none⟩)) (hb : w.rangeAt g o (ar n f).toList) (hR : R (.agg (ar n f)) w) : GivesE Tryd.prog ⟨dst, .load T x, ty, pos, after, gd⟩ a w R := by
  unfold GivesE
  simp only [execOp, hx, Sem.run_bind, run_ldm hT hb, Result.andThen_ok, Sem.run_pure]
  exact hR
section
variable {a : Act} {w : World} {dst : Option Tmp} {ty r : TypeId} {pos : String} {after : Array Edge} {x y : Operand} {f g : Nat → Nat} {gd : Option (Nat × Bool)} {R : Value → World → Prop} {T : TypeId} {n : Nat}
theorem exec_eqU (hT : Tryd.prog.underlying T = some (.array n 5)) (hg : Tryd.prog.eqGuardType Tryd.prog.depth T = false) (hx : a.eval x = .agg (ar n f)) (hy : a.eval y = .agg (ar n g)) : (execOp a.eval ⟨dst, .binOp .eql T x y r, ty, pos, after, gd⟩).run Tryd.prog w = .ok (.value (.bool (eqA n f g))) w := by
  have h1 : (eqGuard .eql T x y (.agg (ar n f)) (.agg (ar n g))).run Tryd.prog w = .ok () w := by
    simp [eqGuard, hg, go_sem]
  simp only [execOp, hx, hy, Sem.run_bind, h1, run_eql_ar hT, Result.andThen_ok, Sem.run_pure]
end
section
variable {ops : Array Oper} {a : Act} {rest : List Oper} {dst : Option Tmp} {ty r : TypeId} {pos : String} {after : Array Edge} {x y : Operand} {f g : Nat → Nat} {gd : Option (Nat × Bool)} {C : World → Prop} {Qk : Act → Prop} {T : TypeId} {n : Nat}
theorem keqU (b : Bool) (hT : Tryd.prog.underlying T = some (.array n 5)) (hg : Tryd.prog.eqGuardType Tryd.prog.depth T = false) (hwt : Region.wanted ⟨dst, .binOp .eql T x y r, ty, pos, after, gd⟩ (yielded ops a.tmps) = true) (hx : a.eval x = .agg (ar n f)) (hy : a.eval y = .agg (ar n g)) (hb : eqA n f g = b)
    (h : wpK Tryd.prog ops C Qk rest (a.put dst (.bool b))) : wpK Tryd.prog ops C Qk (⟨dst, .binOp .eql T x y r, ty, pos, after, gd⟩ :: rest) a :=
  wpK_val hwt (fun w hw => gives_value (w' := w) (by rw [exec_eqU hT hg hx hy, hb]) hw) h
theorem kneU (b : Bool) (hT : Tryd.prog.underlying T = some (.array n 5)) (hg : Tryd.prog.eqGuardType Tryd.prog.depth T = false) (hwt : Region.wanted ⟨dst, .binOp .neq T x y r, ty, pos, after, gd⟩ (yielded ops a.tmps) = true) (hx : a.eval x = .agg (ar n f)) (hy : a.eval y = .agg (ar n g)) (hb : (!eqA n f g) = b)
    (h : wpK Tryd.prog ops C Qk rest (a.put dst (.bool b))) : wpK Tryd.prog ops C Qk (⟨dst, .binOp .neq T x y r, ty, pos, after, gd⟩ :: rest) a :=
  wpK_val hwt (fun w hw => gives_value (w' := w) (by
    have h1 : (eqGuard .neq T x y (.agg (ar n f)) (.agg (ar n g))).run Tryd.prog w = .ok () w := by
      simp [eqGuard, hg, go_sem]
    simp only [execOp, hx, hy, Sem.run_bind, h1, run_neq_ar hT, Result.andThen_ok, Sem.run_pure, hb]) hw) h
/-- A literal of one constant part, in such a region. -/
theorem kbldOne {i : Nat} {v : Value} {cs : Array Value} (hwt : Region.wanted ⟨dst, .build T #[(i, .const v)], ty, pos, after, gd⟩ (yielded ops a.tmps) = true) (hb : ∀ w, (Instr.build T #[(i, v)]).run Tryd.prog w = .ok (.agg cs) w)
    (h : wpK Tryd.prog ops C Qk rest (a.put dst (.agg cs))) : wpK Tryd.prog ops C Qk (⟨dst, .build T #[(i, .const v)], ty, pos, after, gd⟩ :: rest) a :=
  wpK_val hwt (fun w hw => gives_value (w' := w) (by
    have e : (#[(i, Operand.const v)] : Array (Nat × Operand)).map (fun (i, x) => (i, a.eval x)) = #[(i, v)] := by simp only [List.map_toArray, List.map_cons, List.map_nil]; rfl
    simp only [execOp, Sem.run_bind, e, hb, Result.andThen_ok, Sem.run_pure]) hw) h
/-- A literal of no part. -/
theorem kbldZ {cs : Array Value} (hwt : Region.wanted ⟨dst, .build T #[], ty, pos, after, gd⟩ (yielded ops a.tmps) = true) (hb : ∀ w, (Instr.build T #[]).run Tryd.prog w = .ok (.agg cs) w)
    (h : wpK Tryd.prog ops C Qk rest (a.put dst (.agg cs))) : wpK Tryd.prog ops C Qk (⟨dst, .build T #[], ty, pos, after, gd⟩ :: rest) a :=
  wpK_val hwt (fun w hw => gives_value (w' := w) (by
    have e : (#[] : Array (Nat × Operand)).map (fun (i, x) => (i, a.eval x)) = #[] := by simp
    simp only [execOp, Sem.run_bind, e, hb, Result.andThen_ok, Sem.run_pure]) hw) h
end
namespace DvP
end DvP
end Go.Proofs.YtdmnhpgafbcehaaDoor
set_option maxRecDepth 100000
namespace Go.Proofs.YtdmnhpgafbcehaaDoor
open Go.ChangeShapes Go.WideShapes Go.ChangeAt Go.RowKit
attribute [local go_sem] GivesE
/-- The bytes of the slice that operation j yields. -/
def slOf : List (Nat × List Nat) → Nat → Option (List Nat)
  | [], _ => none
  | (p, l) :: r, j => if j = p then some l else slOf r j
def eS (fx : List (Option Value)) (sl : List (Nat × List Nat)) (j : Nat) (v : Value) : Prop := match slOf sl j with
  | some l => ∃ (A : Option Addr) (c : Nat), v = .slice A l.length c
  | none => match fx[j]? with
    | some (some u) => v = u
    | _ => True
def eV (fx : List (Option Value)) (sl : List (Nat × List Nat)) (j : Nat) : Value := match slOf sl j with
  | some l => .slice none l.length 0
  | none => match fx[j]? with
    | some (some u) => u
    | _ => undef
theorem eS_ok (fx : List (Option Value)) (sl : List (Nat × List Nat)) (j : Nat) : eS fx sl j (eV fx sl j) := by
  unfold eS eV
  split
  · exact ⟨none, 0, rfl⟩
  · split
    · rfl
    · trivial
def eD (sl : List (Nat × List Nat)) (j : Nat) (vs : Nat → Value) (w : World) : Prop := ∀ l, slOf sl j = some l → ∃ A c, vs j = .slice A l.length c ∧ Arg w A l l.length c
section
variable {sl : List (Nat × List Nat)} {i j : Nat} {vs : Nat → Value} {v : Value} {w w' : World}
theorem eD_below (h : eD sl j vs w) (hb : Below w.heap.size w w') : eD sl j vs w' := fun l e => by obtain ⟨A, c, h1, h2⟩ := h l e; exact ⟨A, c, h1, h2.on hb⟩
theorem eD_loc (hji : j ≠ i) (h : eD sl j vs w) : eD sl j (updV vs i v) w := by
  unfold eD at h ⊢
  rw [updV_ne _ _ hji]
  exact h
theorem eD_none (h : slOf sl j = none) : eD sl j vs w := fun l e => by rw [h] at e; cases e
theorem eD_some {l : List Nat} {A : Option Addr} {c : Nat} (h : slOf sl j = some l) (ha : Arg w A l l.length c) : eD sl j (updV vs j (.slice A l.length c)) w := fun m e => by
  obtain rfl : l = m := Option.some.inj (h.symm.trans e)
  exact ⟨A, c, updV_self _ _ _, ha⟩
end
/-- A slice of the call's own, as a call's answer in such a region. -/
theorem own_sl {w' : World} {B : Nat} {v : Value} {l : List Nat} (ho : Own 5 .u8 w' B v l) (h2 : B256 l) : ∃ (A : Option Addr) (c : Nat), v = .slice A l.length c := by
  obtain ⟨A, c, rfl, ha⟩ := ho.arg h2
  exact ⟨A, c, rfl⟩
theorem own_eD {sl : List (Nat × List Nat)} {j : Nat} {vs : Nat → Value} {w' : World} {B : Nat} {v : Value} {l : List Nat} (h : slOf sl j = some l) (ho : Own 5 .u8 w' B v l) (h2 : B256 l) : eD sl j (updV vs j v) w' := by
  obtain ⟨A, c, rfl, ha⟩ := ho.arg h2
  exact eD_some h ha
theorem wp_region_eS {id : Nat} {Q : Exit → Act → World → Prop} {a : Act} {w : World} {l : List Oper} (fx : List (Option Value)) (sl : List (Nat × List Nat)) (n : Nat) (hm : Tryd.prog.follows .mixedOrders = true) (ht : tidy l.toArray = true) (hB : tailB l.toArray n = true)
    (h : ∀ vs : Nat → Value, wpE Tryd.prog l.toArray (eS fx sl) (eD sl) (fun _ _ w w' => Below w.heap.size w w') (fun _ w' => Below w.heap.size w w') (fun vs a' => ∀ (d : Nat → Bool) w', (∀ k, k < n → d k = true) → Below w.heap.size w w' → (∀ k, k < n → eD sl k vs w') → wpList Tryd.prog l.toArray Q (l.drop n) a' w') 0 vs (l.take n) a) :
    (Code.region id l.toArray true).wp Tryd.prog Q a w :=
  wp_region_ex (S := eS fx sl) (D := eD sl) (K := fun _ _ w w' => Below w.heap.size w w') (C := fun _ w' => Below w.heap.size w w') n hm ht hB _ (eS_ok _ _) (fun i j vs w w' _ _ _ h hb => eD_below h hb) (fun j i vs v w hji _ h => eD_loc hji h) (Below.refl _ _).drew h
end Go.Proofs.YtdmnhpgafbcehaaDoor
set_option maxRecDepth 100000
namespace Go.Proofs.YtdmnhpgafbcehaaDoor
open Go.ChangeShapes Go.WideShapes Go.ChangeAt Go.RowKit
attribute [local go_sem] Gives GivesE
namespace TgP
end TgP
end Go.Proofs.YtdmnhpgafbcehaaDoor
set_option maxRecDepth 100000
namespace Go.Proofs.YtdmnhpgafbcehaaDoor
open Go.ChangeShapes Go.WideShapes Go.ChangeAt Go.RowKit
attribute [local go_sem] Gives
namespace TgP
def tagN (k : Nat → Nat) (L : List Nat) : Nat → Nat := HmM.tag (HmM.dl k) L
abbrev NumTag (f d : Nat) : Prop := ∀ (k : Nat → Nat), (∀ i, k i < 256) → ∀ (num : Int), (-9223372036854775808 ≤ num ∧ num ≤ 9223372036854775807) → ∀ (s : Nat → Nat), (∀ i, s i < 256) → ∀ w : World, Salts w →
  Calls Tryd.prog f #[.agg (ar 32 k), .int .i64 num, .agg (ar 64 s)] w fun e w' => e = .returned (.agg (ar 32 (tagN k (numT d num s)))) ∧ Below w.heap.size w w'
abbrev PlainTag (f d : Nat) : Prop := ∀ (k : Nat → Nat), (∀ i, k i < 256) → ∀ (A : Option Addr) (l : List Nat) (n cap : Nat), n ≤ 10000 → ∀ w : World, Arg w A l n cap → Salts w →
  Calls Tryd.prog f #[.agg (ar 32 k), .slice A n cap] w fun e w' => e = .returned (.agg (ar 32 (tagN k (plainT d l)))) ∧ Below w.heap.size w w'
end TgP
end Go.Proofs.YtdmnhpgafbcehaaDoor
set_option maxRecDepth 100000
namespace Go.Proofs.YtdmnhpgafbcehaaDoor
open Go.RowKit
namespace TrM
open TgP
/-- A tree: its key, its height, its leaves' tags. -/
structure Tr where
  k : Nat → Nat
  h : Nat
  L : Nat → Nat → Nat
/-- A node's tag. -/
def ndT (k : Nat → Nat) (j : Nat) (s : Nat → Nat) : Nat → Nat := tagN k (numT 78 (j : Int) s)
theorem ndT_ext {k : Nat → Nat} {j : Nat} {s t : Nat → Nat} (h : ∀ i, i < 64 → s i = t i) : ndT k j s = ndT k j t := by
  unfold ndT numT
  rw [show ls 64 s = ls 64 t from List.map_congr_left fun i hi => h i (List.mem_range.1 hi)]
theorem joined_ext {f f' g g' : Nat → Nat} (h : ∀ i, i < 32 → f i = f' i) (h2 : ∀ i, i < 32 → g i = g' i) : ∀ i, i < 64 → joined f g i = joined f' g' i := fun i hi => by
  unfold joined
  by_cases e : i < 32
  · rw [if_pos e, if_pos e, h i e]
  · rw [if_neg e, if_neg e, h2 _ (by omega)]
def tgF (k : Nat → Nat) (n : Nat) (L : Nat → Nat → Nat) : Nat → Nat → Nat → Nat
  | 0, j => L (j - n)
  | f + 1, j => if n ≤ j then L (j - n) else ndT k j (joined (tgF k n L f (2 * j)) (tgF k n L f (2 * j + 1)))
theorem tgF_more {k : Nat → Nat} {n : Nat} {L : Nat → Nat → Nat} : ∀ (f f' j : Nat), n ≤ 2 ^ f * j → f ≤ f' → tgF k n L f' j = tgF k n L f j
  | 0, 0, _, _, _ => rfl
  | 0, f' + 1, j, h, _ => by
    rw [Nat.pow_zero, Nat.one_mul] at h
    unfold tgF
    rw [if_pos h]
  | f + 1, 0, _, _, h => by omega
  | f + 1, f' + 1, j, h, hf => by
    unfold tgF
    by_cases e : n ≤ j
    · rw [if_pos e, if_pos e]
    · rw [if_neg e, if_neg e]
      have e1 : 2 ^ (f + 1) * j = 2 ^ f * (2 * j) := by rw [Nat.pow_succ, Nat.mul_assoc]
      have h1 : n ≤ 2 ^ f * (2 * j) := by rw [← e1]; exact h
      have h2 : n ≤ 2 ^ f * (2 * j + 1) := Nat.le_trans h1 (Nat.mul_le_mul_left _ (by omega))
      rw [tgF_more f f' _ h1 (by omega), tgF_more f f' _ h2 (by omega)]
namespace Tr
/-- How many leaves. -/
def n (t : Tr) : Nat := 2 ^ t.h
/-- The tag of a number. -/
def tg (t : Tr) (j : Nat) : Nat → Nat := tgF t.k t.n t.L t.h j
/-- A node's sector. -/
def nd (t : Tr) (j : Nat) : Nat → Nat := joined (t.tg (2 * j)) (t.tg (2 * j + 1))
theorem n_pos (t : Tr) : 0 < t.n := Nat.pow_pos (by omega)
theorem tg_leaf {t : Tr} {j : Nat} (h : t.n ≤ j) : t.tg j = t.L (j - t.n) := by
  unfold tg
  cases t.h with
  | zero => rfl
  | succ m => unfold tgF; rw [if_pos h]
theorem tg_node {t : Tr} {j : Nat} (h1 : 1 ≤ j) (h : j < t.n) : t.tg j = ndT t.k j (t.nd j) := by
  unfold nd tg
  have hn : t.n = 2 ^ t.h := rfl
  generalize t.n = n at *
  generalize t.h = m at *
  cases m with
  | zero => rw [Nat.pow_zero] at hn; omega
  | succ m =>
    have hp : 2 ^ (m + 1) = 2 ^ m * 2 := Nat.pow_succ ..
    have e : ∀ i, 2 ≤ i → n ≤ 2 ^ m * i := fun i hi => by rw [hn, hp]; exact Nat.mul_le_mul_left _ hi
    rw [tgF_more m (m + 1) (2 * j) (e _ (by omega)) (by omega), tgF_more m (m + 1) (2 * j + 1) (e _ (by omega)) (by omega)]
    conv => lhs; unfold tgF
    rw [if_neg (by omega)]
def set (t : Tr) (i : Nat) (f : Nat → Nat) : Tr := { t with L := fun j => if j = i then f else t.L j }
@[simp] theorem set_k (t : Tr) (i : Nat) (f : Nat → Nat) : (t.set i f).k = t.k := rfl
@[simp] theorem set_h (t : Tr) (i : Nat) (f : Nat → Nat) : (t.set i f).h = t.h := rfl
@[simp] theorem set_n (t : Tr) (i : Nat) (f : Nat → Nat) : (t.set i f).n = t.n := rfl
end Tr
/-- Two trees tell the same, as far as anyone can see. -/
structure Al (t u : Tr) : Prop where
  k : t.k = u.k
  h : t.h = u.h
  L : ∀ i j, i < t.n → j < 32 → t.L i j = u.L i j
theorem tgF_al {k : Nat → Nat} {n m : Nat} {L M : Nat → Nat → Nat} (hL : ∀ i j, i < m → j < 32 → L i j = M i j) : ∀ (f j : Nat), 1 ≤ j → j < n + m → (∀ g, g ≤ f → 2 ^ g * j < n + m ∨ n ≤ 2 ^ g * j) → ∀ i, i < 32 → n = m → n ≤ 2 ^ f * j → tgF k n L f j i = tgF k n M f j i
  | 0, j, h1, h2, _, i, hi, hnm, h4 => by
    rw [Nat.pow_zero, Nat.one_mul] at h4
    exact hL _ _ (by omega) hi
  | f + 1, j, h1, h2, h3, i, hi, hnm, h4 => by
    unfold tgF
    by_cases e : n ≤ j
    · rw [if_pos e, if_pos e]; exact hL _ _ (by omega) hi
    · rw [if_neg e, if_neg e]
      have e1 : 2 ^ (f + 1) * j = 2 ^ f * (2 * j) := by rw [Nat.pow_succ, Nat.mul_assoc]
      have h5 : n ≤ 2 ^ f * (2 * j) := by rw [← e1]; exact h4
      have h6 : n ≤ 2 ^ f * (2 * j + 1) := Nat.le_trans h5 (Nat.mul_le_mul_left _ (by omega))
      refine congrFun (ndT_ext (joined_ext (fun q hq => ?_) fun q hq => ?_)) i
      · exact tgF_al hL f (2 * j) (by omega) (by omega) (fun g _ => by omega) q hq hnm h5
      · exact tgF_al hL f (2 * j + 1) (by omega) (by omega) (fun g _ => by omega) q hq hnm h6
theorem Al.tg {t u : Tr} (h : Al t u) {j : Nat} (h1 : 1 ≤ j) (h2 : j < 2 * t.n) : ∀ i, i < 32 → t.tg j i = u.tg j i := fun i hi => by
  unfold Tr.tg
  have hn : t.n = u.n := by unfold Tr.n; rw [h.h]
  rw [← h.k, ← hn, ← h.h]
  exact tgF_al (m := t.n) h.L t.h j h1 (by omega) (fun g _ => by omega) i hi rfl (by show 2 ^ t.h ≤ 2 ^ t.h * j; exact Nat.le_mul_of_pos_right _ (by omega))
theorem Al.nd {t u : Tr} (h : Al t u) {j : Nat} (h1 : 1 ≤ j) (h2 : j < t.n) : ∀ i, i < 64 → t.nd j i = u.nd j i :=
  joined_ext (h.tg (by omega) (by omega)) (h.tg (by omega) (by omega))
theorem Al.refl (t : Tr) : Al t t := ⟨rfl, rfl, fun _ _ _ _ => rfl⟩
/-- The path of a leaf: its i-th number, the lowest first. -/
def pth (h leaf i : Nat) : Nat := (2 ^ h + leaf) / 2 ^ (i + 1)
def pthL (h leaf : Nat) : List Nat := (List.range h).map (pth h leaf)
theorem pthL_length (h leaf : Nat) : (pthL h leaf).length = h := by simp [pthL]
theorem pth_zero (h leaf : Nat) : pth h leaf 0 = (2 ^ h + leaf) / 2 := by simp [pth]
theorem pth_succ (h leaf i : Nat) : pth h leaf (i + 1) = pth h leaf i / 2 := by
  unfold pth
  rw [Nat.div_div_eq_div_mul, ← Nat.pow_succ]
theorem pth_lt {h leaf i : Nat} (hl : leaf < 2 ^ h) : pth h leaf i < 2 ^ h := by
  unfold pth
  rw [Nat.pow_succ, ← Nat.div_div_eq_div_mul]
  have : (2 ^ h + leaf) / 2 ^ i ≤ 2 ^ h + leaf := Nat.div_le_self _ _
  omega
theorem pth_pos {h leaf i : Nat} (hi : i < h) : 1 ≤ pth h leaf i := by
  unfold pth
  rw [Nat.le_div_iff_mul_le (Nat.pow_pos (by omega)), Nat.one_mul]
  exact Nat.le_trans (Nat.pow_le_pow_right (by omega) (show i + 1 ≤ h by omega)) (by omega)
theorem pth_last {h leaf : Nat} (hl : leaf < 2 ^ h) (hh : 1 ≤ h) : pth h leaf (h - 1) = 1 := by
  unfold pth
  rw [show h - 1 + 1 = h by omega]
  have hp : 0 < 2 ^ h := Nat.pow_pos (by omega)
  rw [Nat.div_eq_of_lt_le] <;> omega
theorem pth_end {h leaf : Nat} (hl : leaf < 2 ^ h) (i : Nat) (hi : h ≤ i) : pth h leaf i = 0 := by
  unfold pth
  apply Nat.div_eq_of_lt
  have : 2 ^ (h + 1) ≤ 2 ^ (i + 1) := Nat.pow_le_pow_right (by omega) (by omega)
  rw [Nat.pow_succ] at this
  omega
/-- A height that a tree may have. -/
def okH (h : Int) : Prop := 1 ≤ h ∧ h ≤ 12
theorem pow_le {h : Nat} (hh : h ≤ 12) : 2 ^ h ≤ 4096 := by
  have : 2 ^ h ≤ 2 ^ 12 := Nat.pow_le_pow_right (by omega) hh
  omega
end TrM
end Go.Proofs.YtdmnhpgafbcehaaDoor
set_option maxRecDepth 100000
namespace Go.Proofs.YtdmnhpgafbcehaaDoor
open Go.ChangeShapes Go.WideShapes Go.ChangeAt Go.RowKit
attribute [local go_sem] Gives
/-! ### A list of ints of the call's own -/
def OwnI (w : World) (B : Nat) (v : Value) (G : List Nat) : Prop := w.ownsRow B 3 1 v G.length (G.map fun j : Nat => Value.int .i64 j)
theorem Blk.grownR {a b : World} {k : Nat} {r : Option Nat} {t : TypeId} {cs : Array Value} (h : Blk a k t cs) (hg : a.grownBy b r) (hne : ∀ x, r = some x → x ≠ k) : Blk b k t cs :=
  (hg.block k h.lt (fun e => hne k e.symm rfl)).trans h
theorem OwnI.down {w : World} {B B' : Nat} {v : Value} {G : List Nat} (h : OwnI w B v G) (hB : B' ≤ B) : OwnI w B' v G :=
  ⟨h.1, h.2.imp id fun ⟨g, cap, cur, hv, hb, hr⟩ => ⟨g, cap, cur, hv, Nat.le_trans hB hb, hr⟩⟩
theorem OwnI.lt {w : World} {B : Nat} {v : Value} {G : List Nat} (h : OwnI w B v G) : ∀ k, v.ownBlock = some k → B ≤ k ∧ k < w.heap.size := World.ownsRow.lt h
theorem OwnI.only {w w' : World} {B g : Nat} {v : Value} {G : List Nat} (h : OwnI w B v G) (ho : w.grownBy w' (some g)) (hg : g < B) : OwnI w' B v G :=
  World.ownsRow.kept h ho (by
    cases e : v.ownBlock with
    | none => exact .inl rfl
    | some k => exact .inr (fun e2 => by injection e2 with e2; have := (h.lt k e).1; omega))
theorem OwnI.below {w w' : World} {B k : Nat} {v : Value} {G : List Nat} (h : OwnI w B v G) (hb : Below k w w') (hk : w.heap.size ≤ k) : OwnI w' B v G :=
  World.ownsRow.kept (row := none) h ⟨hb.os, hb.tape, hb.output, hb.size, fun i hi _ => hb.block i (by omega)⟩ (by
    cases v.ownBlock with
    | none => exact .inl rfl
    | some g => exact .inr (fun e => by cases e))
theorem OwnI.len {w : World} {B : Nat} {v : Value} {G : List Nat} (h : OwnI w B v G) : ∃ A c, v = .slice A G.length c := by
  rcases h.2 with ⟨h1, h2⟩ | ⟨g, cap, cur, h1, _⟩
  · exact ⟨none, 0, by rw [h1, h2]⟩
  · exact ⟨_, _, h1⟩
theorem OwnI.get {w : World} {B j : Nat} {v : Value} {G : List Nat} (h : OwnI w B v G) (hj : j < G.length) : ∃ g c, v = .slice (some ⟨g, 0, none⟩) G.length c ∧ ∀ i, i < G.length → w.cell? ⟨g, i, none⟩ = some (.int .i64 (G.getD i 0 : Nat)) := by
  rcases h.2 with ⟨h1, h2⟩ | ⟨g, cap, cur, h1, _⟩
  · omega
  · refine ⟨g, cap, h1, fun i hi => ?_⟩
    have := World.ownsRow.cellAt (h1 ▸ h : w.ownsRow B 3 1 (.slice (some ⟨g, 0, none⟩) G.length cap) G.length _) i (by omega)
    rw [this, List.getElem?_map, List.getElem?_eq_getElem hi]
    simp [List.getD, hi]
theorem OwnI.cell {w : World} {B gg n c i : Nat} {G : List Nat} (h : OwnI w B (.slice (some ⟨gg, 0, none⟩) n c) G) (hi : i < G.length) : w.cell? ⟨gg, i, none⟩ = some (.int .i64 (G.getD i 0 : Nat)) := by
  obtain ⟨g', c', e, hr⟩ := h.get hi
  simp only [Value.slice.injEq, Option.some.injEq, Addr.mk.injEq, and_true, true_and] at e
  obtain ⟨rfl, _, _⟩ := e
  exact hr i hi
section
variable {ops : Array Oper} {Q : Exit → Act → World → Prop} {a : Act} {w : World} {rest : List Oper} {dst : Option Tmp} {ty : TypeId} {pos : String} {after : Array Edge} {s x : Operand} {c B : Nat} {v : Value} {G : List Nat}
end
end Go.Proofs.YtdmnhpgafbcehaaDoor
set_option maxRecDepth 100000
namespace Go.Proofs.YtdmnhpgafbcehaaDoor
open Go.ChangeShapes Go.WideShapes Go.ChangeAt Go.RowKit
attribute [local go_sem] Gives
namespace TrM
/-- What Path answers. -/
def pathOk (h leaf : Int) : Prop := okH h ∧ 0 ≤ leaf ∧ leaf < (2 ^ h.toNat : Nat)
instance (h leaf : Int) : Decidable (pathOk h leaf) := by unfold pathOk okH; infer_instance
theorem pthL_take {h leaf i : Nat} (hi : i < h) : (pthL h leaf).take (i + 1) = (pthL h leaf).take i ++ [pth h leaf i] := by
  have hl : i < (pthL h leaf).length := by rw [pthL_length]; exact hi
  rw [List.take_succ_eq_append_getElem hl]
  simp [pthL]
theorem OwnI.nil (w : World) (B : Nat) : OwnI w B (.slice none 0 0) [] := World.ownsRow_nil w B _ _
end TrM
end Go.Proofs.YtdmnhpgafbcehaaDoor
set_option maxRecDepth 100000
namespace Go.Proofs.YtdmnhpgafbcehaaDoor
open Go.ChangeShapes Go.WideShapes Go.ChangeAt Go.RowKit
/-- From w to w' no block is turned but those of S; new ones may come. -/
structure Turn (S : Nat → Prop) (w w' : World) : Prop where
  os : w'.os = w.os
  tape : w'.tape = w.tape
  output : w'.output = w.output
  size : w.heap.size ≤ w'.heap.size
  block : ∀ k, k < w.heap.size → ¬ S k → w'.heap[k]? = w.heap[k]?
namespace Turn
variable {S T : Nat → Prop} {w w' w2 : World}
theorem refl (S : Nat → Prop) (w : World) : Turn S w w := ⟨rfl, rfl, rfl, Nat.le_refl _, fun _ _ _ => rfl⟩
theorem trans (h : Turn S w w') (h2 : Turn T w' w2) (hT : ∀ k, T k → S k ∨ w.heap.size ≤ k) : Turn S w w2 :=
  ⟨h2.os.trans h.os, h2.tape.trans h.tape, h2.output.trans h.output, Nat.le_trans h.size h2.size, fun k hk hS =>
    (h2.block k (Nat.lt_of_lt_of_le hk h.size) fun e => (hT k e).elim hS fun h3 => by omega).trans (h.block k hk hS)⟩
theorem mono (h : Turn S w w') (hS : ∀ k, S k → T k) : Turn T w w' := ⟨h.os, h.tape, h.output, h.size, fun k hk hn => h.block k hk fun e => hn (hS k e)⟩
theorem of_below {B : Nat} (h : Below B w w') : Turn (fun k => B ≤ k) w w' := ⟨h.os, h.tape, h.output, h.size, fun k _ hS => h.block k (by omega)⟩
theorem of_new {S : Nat → Prop} (h : Below w.heap.size w w') : Turn S w w' := ⟨h.os, h.tape, h.output, h.size, fun k hk _ => h.block k hk⟩
theorem below (h : Turn S w w') {B : Nat} (hB : B ≤ w.heap.size) (hS : ∀ k, S k → B ≤ k) : Below B w w' := ⟨h.os, h.tape, h.output, h.size, fun k hk => h.block k (by omega) fun e => by have := hS k e; omega⟩
theorem of_grown {r : Option Nat} (h : w.grownBy w' r) (hr : ∀ k, r = some k → S k) : Turn S w w' := ⟨h.os, h.tape, h.output, h.size, fun k hk hS => h.block k hk fun e => hS (hr k e.symm)⟩
theorem setRow (w : World) (g : Nat) (cs : Array Value) (hg : S g) : Turn S w (w.setRow g cs) := ⟨rfl, rfl, rfl, by simp, fun k _ hS => Go.setRow_other w g k cs fun e => hS (e ▸ hg)⟩
theorem setCell (w : World) (p : Addr) (v : Value) (hp : S p.block) : Turn S w (w.setCell p v) := ⟨rfl, rfl, rfl, by simp, fun k _ hS => Below.heap_setCell w p v k fun e => hS (e ▸ hp)⟩
theorem alloc (w : World) (o : Obj) : Turn S w (w.alloc o) := of_new ((Below.refl _ _).alloc (Nat.le_refl _) _)
theorem drew (w : World) : Turn S w w.drew := ⟨rfl, rfl, rfl, Nat.le_refl _, fun _ _ _ => rfl⟩
theorem cell (h : Turn S w w') {p : Addr} {v : Value} (hc : w.cell? p = some v) (hp : ¬ S p.block) : w'.cell? p = some v :=
  (World.cell?_of_block (h.block p.block (World.block_lt_of_cell? w p hc) hp)).trans hc
end Turn
theorem Blk.turn {S : Nat → Prop} {w w' : World} {g : Nat} {t : TypeId} {cs : Array Value} (h : Blk w g t cs) (ht : Turn S w w') (hg : ¬ S g) : Blk w' g t cs := (ht.block g h.lt hg).trans h
theorem Turn.range {S : Nat → Prop} {w w' : World} {g o : Nat} {cs : List Value} (h : Turn S w w') (hr : w.rangeAt g o cs) (hg : ¬ S g) : w'.rangeAt g o cs := fun j v hj => h.cell (p := ⟨g, o + j, none⟩) (hr j v hj) hg

/-! ### Elements of k cells -/
section
variable {α : Type} {k : Nat} {en : α → List Value} {S T : Nat → Prop} {w w' : World} {A : Option Addr} {l m : List α}
/-- The elements of l lie one behind the other from A on, in a block of S. -/
def Lst (k : Nat) (en : α → List Value) (S : Nat → Prop) (w : World) (A : Option Addr) (l : List α) : Prop :=
  0 < l.length → ∃ b o, A = some ⟨b, o, none⟩ ∧ S b ∧ b < w.heap.size ∧ ∀ (i : Nat) (x : α), l[i]? = some x → w.rangeAt b (o + i * k) (en x)
/-- A slice of them. -/
structure Sli (k : Nat) (en : α → List Value) (S : Nat → Prop) (w : World) (A : Option Addr) (l : List α) (n cp : Nat) : Prop where
  len : l.length = n
  cap : n ≤ cp
  max : cp ≤ maxLen
  none : A = none → n = 0 ∧ cp = 0
  lst : Lst k en S w A l
theorem Lst.turn (h : Lst k en S w A l) (ht : Turn T w w') (hd : ∀ b, S b → b < w.heap.size → ¬ T b) : Lst k en S w' A l := fun hn => by
  obtain ⟨b, o, rfl, hS, hl, hr⟩ := h hn
  exact ⟨b, o, rfl, hS, Nat.lt_of_lt_of_le hl ht.size, fun i x hi => ht.range (hr i x hi) (hd b hS hl)⟩
theorem Lst.mono (h : Lst k en S w A l) (hST : ∀ b, S b → T b) : Lst k en T w A l := fun hn => by
  obtain ⟨b, o, rfl, hS, hl, hr⟩ := h hn
  exact ⟨b, o, rfl, hST b hS, hl, hr⟩
theorem Sli.turn {n cap : Nat} (h : Sli k en S w A l n cap) (ht : Turn T w w') (hd : ∀ b, S b → b < w.heap.size → ¬ T b) : Sli k en S w' A l n cap := ⟨h.len, h.cap, h.max, h.none, h.lst.turn ht hd⟩
theorem Sli.mono {n cap : Nat} (h : Sli k en S w A l n cap) (hST : ∀ b, S b → T b) : Sli k en T w A l n cap := ⟨h.len, h.cap, h.max, h.none, h.lst.mono hST⟩
theorem Sli.nil (k : Nat) (en : α → List Value) (S : Nat → Prop) (w : World) : Sli k en S w .none ([] : List α) 0 0 := ⟨rfl, Nat.le_refl _, Nat.zero_le _, fun _ => ⟨rfl, rfl⟩, fun h => by simp at h⟩
theorem Sli.some {n cap i : Nat} {x : α} (h : Sli k en S w A l n cap) (hi : l[i]? = some x) : ∃ b o, A = some ⟨b, o, .none⟩ ∧ S b ∧ b < w.heap.size ∧ w.rangeAt b (o + i * k) (en x) := by
  obtain ⟨b, o, e, hS, hl, hr⟩ := h.lst (by have := (List.getElem?_eq_some_iff.1 hi).1; omega)
  exact ⟨b, o, e, hS, hl, hr i x hi⟩
theorem flat_at {en : α → List Value} (hen : ∀ x, (en x).length = k) : ∀ (l : List α) (i j : Nat) (x : α), l[i]? = some x → j < k → (l.flatMap en)[i * k + j]? = (en x)[j]?
  | [], i, j, x, h, _ => by simp at h
  | y :: l, 0, j, x, h, hj => by
    simp only [List.getElem?_cons_zero, Option.some.injEq] at h
    subst h
    rw [List.flatMap_cons, Nat.zero_mul, Nat.zero_add, List.getElem?_append_left (by rw [hen]; exact hj)]
  | y :: l, i + 1, j, x, h, hj => by
    rw [List.getElem?_cons_succ] at h
    rw [List.flatMap_cons, List.getElem?_append_right (by rw [hen, Nat.add_mul]; omega), hen, show (i + 1) * k + j - k = i * k + j by rw [Nat.add_mul]; omega]
    exact flat_at hen l i j x h hj
theorem flat_len {en : α → List Value} (hen : ∀ x, (en x).length = k) : ∀ l : List α, (l.flatMap en).length = l.length * k
  | [] => by simp
  | x :: l => by rw [List.flatMap_cons, List.length_append, flat_len hen l, hen, List.length_cons, Nat.add_mul]; omega
/-- What is wanted of an element's type: k cells, each a value of one cell. -/
structure EltX (E : TypeId) (k : Nat) (en : α → List Value) : Prop where
  pos : 0 < k
  len : ∀ x, (en x).length = k
  one : ∀ x, ∀ u ∈ en x, u.oneCell' = true
  info : ∃ (i : TypeInfo) (z : Value), Tryd.prog.info? E = some i ∧ i.zero = some z ∧ i.size = k ∧ i.bytes ≤ 16 * k + 16 ∧ z.cells.size = k
theorem elt_info {E : TypeId} (h1 : (Tryd.prog.info? E).map (·.size) = some k) (h2 : (Tryd.prog.info? E).map (fun i => decide (i.bytes ≤ 16 * k + 16)) = some true) (h3 : ((Tryd.prog.info? E).bind (·.zero)).map (·.cells.size) = some k) :
    ∃ (i : TypeInfo) (z : Value), Tryd.prog.info? E = some i ∧ i.zero = some z ∧ i.size = k ∧ i.bytes ≤ 16 * k + 16 ∧ z.cells.size = k := by
  cases hi : Tryd.prog.info? E with
  | none => rw [hi] at h1; cases h1
  | some i =>
    rw [hi] at h1 h2 h3
    simp only [Option.map_some, Option.some.injEq, decide_eq_true_eq, Option.bind_some] at h1 h2 h3
    cases hz : i.zero with
    | none => rw [hz] at h3; cases h3
    | some z => rw [hz] at h3; exact ⟨i, z, rfl, hz, h1, h2, by simpa using h3⟩
/-- A list of the call's own, from block B on. -/
def OwnX (E : TypeId) (k : Nat) (en : α → List Value) (w : World) (B : Nat) (v : Value) (l : List α) : Prop := w.ownsRow B E k v l.length (l.flatMap en)
section
variable {E : TypeId} {B : Nat} {v : Value}
theorem OwnX.nil (E : TypeId) (k : Nat) (en : α → List Value) (w : World) (B : Nat) : OwnX E k en w B (.slice none 0 0) ([] : List α) := World.ownsRow_nil w B _ _
theorem OwnX.empty (hB : B ≤ w.heap.size) : OwnX E k en (w.alloc (.cells #[] E)) B (.slice (some ⟨w.heap.size, 0, none⟩) 0 0) ([] : List α) := World.ownsRow_made w #[] 0 hB (Nat.zero_le _) (by simp)
theorem OwnX.sli (hE : ∀ x, (en x).length = k) (h : OwnX E k en w B v l) : ∃ A cap, v = .slice A l.length cap ∧ Sli k en (fun b => B ≤ b) w A l l.length cap := by
  rcases h.2 with ⟨rfl, h0⟩ | ⟨g, cap, cur, rfl, hB, hg, hnc, hcm, hcs, ht⟩
  · obtain rfl := List.eq_nil_of_length_eq_zero h0
    exact ⟨none, 0, rfl, Sli.nil _ _ _ _⟩
  · refine ⟨_, cap, rfl, rfl, hnc, hcm, (fun e => by cases e), fun _ => ⟨g, 0, rfl, hB, Blk.lt (t := E) (cs := cur) hg, fun i x hi j u hj => ?_⟩⟩
    have hil := (List.getElem?_eq_some_iff.1 hi).1
    have hjl : j < k := by have := (List.getElem?_eq_some_iff.1 hj).1; rwa [hE] at this
    rw [Nat.zero_add, cell_of_row w g _ cur _ _ hg]
    have h1 := flat_at hE l i j x hi hjl
    rw [hj, ← ht, List.getElem?_take_of_lt (by have := Nat.mul_le_mul_right k (show i + 1 ≤ l.length from hil); rw [Nat.add_mul] at this; omega), Array.getElem?_toList] at h1
    exact h1
theorem OwnX.own (h : OwnX E k en w B v l) : ∀ b, v.ownBlock = some b → B ≤ b ∧ b < w.heap.size := fun b hb => World.ownsRow.lt h b hb
theorem OwnX.turn (h : OwnX E k en w B v l) (ht : Turn T w w') (hd : ∀ b, v.ownBlock = some b → ¬ T b) : OwnX E k en w' B v l := by
  refine ⟨h.1, ?_⟩
  rcases h.2 with hn | ⟨g, cap, cur, rfl, hb, hgg, rest⟩
  · exact .inl hn
  · exact .inr ⟨g, cap, cur, rfl, hb, (ht.block g (Blk.lt (t := E) (cs := cur) hgg) (hd g rfl)).trans hgg, rest⟩
theorem OwnX.below {C : Nat} (h : OwnX E k en w B v l) (hb : Below C w w') (hC : w.heap.size ≤ C) : OwnX E k en w' B v l := h.turn (Turn.of_below hb) fun b e => by have := h.own b e; omega
theorem OwnX.lower {B' : Nat} (h : OwnX E k en w B v l) (hB : B' ≤ B) : OwnX E k en w B' v l := ⟨h.1, h.2.imp id fun ⟨g, cap, cur, hv, hg, rest⟩ => ⟨g, cap, cur, hv, Nat.le_trans hB hg, rest⟩⟩
end
section
variable {ops : Array Oper} {Q : Exit → Act → World → Prop} {a : Act} {rest : List Oper} {dst : Option Tmp} {ty : TypeId} {pos : String} {after : Array Edge} {s x : Operand} {n cap B : Nat} {v : Value} {E L : TypeId}
/-- append of a slice to a list of the call's own: the run alone. -/
theorem run_appX (hE : EltX E k en) (hu : Tryd.prog.underlying L = some (.slice E)) (hown : OwnX E k en w B v l) (hm : Sli k en S w A m n cap) (hsz : l.length + n ≤ 1000000) (hk : k ≤ 1000) (hB : B ≤ w.heap.size) :
    ∃ v' w', (Builtin.append_ #[L, L] ty #[v, .slice A n cap]).run Tryd.prog w = .ok v' w' ∧ OwnX E k en w' B v' (l ++ m) ∧ w.grownBy w' v.ownBlock := by
  obtain ⟨i, z, hi, hz, h1, h2, h3⟩ := hE.info
  cases hA : A with
  | none =>
    obtain ⟨rfl, rfl⟩ := hm.none hA
    obtain rfl := List.eq_nil_of_length_eq_zero hm.len
    refine ⟨v, w, run_append_owned_none (P := Tryd.prog) w B L ty E i k hu hi v l.length _ hown, ?_, ⟨rfl, rfl, rfl, Nat.le_refl _, fun _ _ _ => rfl⟩⟩
    rw [List.append_nil]; exact hown
  | some ad =>
    subst hA
    have hne : ∀ j u, (m.flatMap en)[j]? = some u → w.cell? (ad.add j) = some u := fun j u hj => by
      have hjl := (List.getElem?_eq_some_iff.1 hj).1
      rw [flat_len hE.len] at hjl
      have hq : j / k < m.length := Nat.div_lt_of_lt_mul (by rw [Nat.mul_comm]; exact hjl)
      have h4 := flat_at hE.len m (j / k) (j % k) m[j / k] (List.getElem?_eq_getElem hq) (Nat.mod_lt _ hE.pos)
      rw [show j / k * k + j % k = j by rw [Nat.mul_comm]; exact Nat.div_add_mod j k, hj] at h4
      obtain ⟨b, o, e, _, _, hr⟩ := hm.lst (Nat.lt_of_le_of_lt (Nat.zero_le _) hq)
      obtain rfl : ad = ⟨b, o, none⟩ := Option.some.inj e
      have h5 := hr (j / k) m[j / k] (List.getElem?_eq_getElem hq) (j % k) u h4.symm
      rw [Addr.add_mid]
      rwa [show o + j / k * k + j % k = o + j by have := Nat.div_add_mod j k; rw [Nat.mul_comm] at this; omega] at h5
    obtain ⟨v', w', hr, ho, hg, _⟩ := run_append_own (P := Tryd.prog) w B L ty E i z k i.bytes hu hi hz h1 rfl h3 hE.pos v l.length _ hown ad n cap (m.flatMap en) (by rw [flat_len hE.len, hm.len]) hne
      (fun u hu => by obtain ⟨x, _, hx⟩ := List.mem_flatMap.1 hu; exact hE.one x u hx) (by unfold maxLen; omega)
      (Nat.le_trans (Nat.mul_le_mul hsz (Nat.le_trans h2 (show 16 * k + 16 ≤ 16016 by omega))) (by omega)) hB
    refine ⟨v', w', hr, ?_, hg⟩
    unfold OwnX
    rw [List.length_append, List.flatMap_append, hm.len]
    exact ho
theorem wappX (hE : EltX E k en) (hu : Tryd.prog.underlying L = some (.slice E)) (hs : a.eval s = v) (hx : a.eval x = .slice A n cap) (hown : OwnX E k en w B v l) (hm : Sli k en S w A m n cap) (hsz : l.length + n ≤ 1000000) (hk : k ≤ 1000) (hB : B ≤ w.heap.size)
    (h : ∀ v' w', OwnX E k en w' B v' (l ++ m) → w.grownBy w' v.ownBlock → wpList Tryd.prog ops Q rest (a.put dst v') w') :
    wpList Tryd.prog ops Q (⟨dst, .call { callee := .builtin .append, args := #[s, x], argTypes := #[L, L] }, ty, pos, after, none⟩ :: rest) a w := by
  obtain ⟨v', w', hr, ho, hg⟩ := run_appX (ty := ty) hE hu hown hm hsz hk hB
  refine wpList_plain rfl fun K hK => ?_
  unfold Oper.wp execOp
  simp only [resolve, invoke, builtin, Sem.run_bind, Sem.run_pure, Result.andThen_ok, List.map_toArray, List.map_cons, List.map_nil, hs, hx, hr]
  exact hK _ _ (h v' w' ho hg)
end
end
end Go.Proofs.YtdmnhpgafbcehaaDoor
set_option maxRecDepth 100000
namespace Go.Proofs.YtdmnhpgafbcehaaDoor
open Go.RowKit
/-- n sectors, one behind the other. -/
def secs (n : Nat) (F : Nat → Nat → Nat) : Array Value := row (n * 64) fun j => .int .u8 (F (j / 64) (j % 64))
/-- The parts of a literal, from place i on. -/
def partsFrom : Nat → List (Nat → Nat) → List (Nat × Value)
  | _, [] => []
  | i, f :: l => (i, .agg (sec f)) :: partsFrom (i + 1) l
section
variable {P : Program} {ops : Array Oper} {Q : Exit → Act → World → Prop} {a : Act} {w : World} {rest : List Oper} {dst : Option Tmp} {ty : TypeId} {pos : String} {after : Array Edge}
end
end Go.Proofs.YtdmnhpgafbcehaaDoor
set_option maxRecDepth 100000
namespace Go.Proofs.YtdmnhpgafbcehaaDoor
open Go.ChangeShapes Go.WideShapes Go.ChangeAt Go.RowKit
/-- Places one behind the other. -/
def Consec : Nat → List (Nat × Nat) → Prop
  | _, [] => True
  | off, (o, n) :: l => o = off ∧ Consec (off + n) l
/-- The parts of a literal, from field i on. -/
def partsAt : Nat → List Value → List (Nat × Value)
  | _, [] => []
  | i, v :: l => (i, v) :: partsAt (i + 1) l
theorem fold_list (pre z : List Value) : ∀ (cs : List Value) (k : Nat), k + cs.length ≤ z.length →
    (cs.zipIdx k).foldl (fun (acc : Array Value) x => acc.setIfInBounds (pre.length + x.2) x.1) (pre ++ z).toArray = (pre ++ (z.take k ++ cs ++ z.drop (k + cs.length))).toArray
  | [], k, h => by
    simp only [List.zipIdx_nil, List.foldl_nil, List.length_nil, Nat.add_zero, List.append_nil, List.take_append_drop]
  | c :: cs, k, h => by
    simp only [List.length_cons] at h
    rw [List.zipIdx_cons, List.foldl_cons]
    have e : ((pre ++ z).toArray).setIfInBounds (pre.length + k) c = (pre ++ (z.set k c)).toArray := by
      rw [List.setIfInBounds_toArray, List.set_append_right _ _ (by omega), Nat.add_sub_cancel_left]
    show ((cs.zipIdx (k + 1)).foldl _ (((pre ++ z).toArray).setIfInBounds (pre.length + k) c)) = _
    rw [e, fold_list pre (z.set k c) cs (k + 1) (by rw [List.length_set]; omega)]
    congr 2
    rw [List.drop_set_of_lt (by omega), List.take_set, List.length_cons, show k + 1 + cs.length = k + (cs.length + 1) by omega]
    congr 1
    rw [List.take_add_one, List.getElem?_eq_getElem (show k < z.length by omega), Option.toList_some, List.set_append_right _ _ (by rw [List.length_take]; omega)]
    rw [List.length_take, Nat.min_eq_left (by omega), Nat.sub_self, List.set_cons_zero, List.append_assoc]
    rfl
theorem fill_consec {place : Nat → Option (Nat × Nat)} : ∀ (vs : List Value) (ss : List (Nat × Nat)) (pre z : List Value) (i : Nat), Consec pre.length ss → vs.map (·.cells.size) = ss.map (·.2) →
    ((ss.map (·.2)).sum ≤ z.length) → (∀ j, j < ss.length → place (i + j) = ss[j]?) →
    Instr.fill place (pre ++ z).toArray (partsAt i vs) = some (pre ++ (vs.flatMap (·.cells.toList) ++ z.drop (ss.map (·.2)).sum)).toArray
  | [], ss, pre, z, i, _, h, _, _ => by
    have : ss = [] := by simpa using h.symm
    subst this
    simp [partsAt, Instr.fill]
  | v :: vs, [], pre, z, i, _, h, _, _ => by simp at h
  | v :: vs, (o, n) :: ss, pre, z, i, hc, h, hz, hp => by
    obtain ⟨rfl, hc⟩ := hc
    simp only [List.map_cons, List.cons.injEq, List.sum_cons] at h hz
    obtain ⟨h1, h2⟩ := h
    have hpl := hp 0 (by simp)
    simp only [Nat.add_zero, List.getElem?_cons_zero] at hpl
    rw [partsAt, Instr.fill]
    simp only [hpl]
    rw [if_neg (by simp; omega)]
    have e : v.cells.zipIdx.foldl (fun (cs : Array Value) (c, j) => cs.setIfInBounds (pre.length + j) c) (pre ++ z).toArray = ((pre ++ v.cells.toList) ++ z.drop n).toArray := by
      rw [← Array.foldl_toList, Array.toList_zipIdx]
      refine (fold_list pre z v.cells.toList 0 (by rw [Array.length_toList]; omega)).trans ?_
      rw [List.take_zero, List.nil_append, Array.length_toList, Nat.zero_add, h1, List.append_assoc]
    rw [e, fill_consec vs ss (pre ++ v.cells.toList) (z.drop n) (i + 1) (by have e2 : (pre ++ v.cells.toList).length = pre.length + n := (by rw [List.length_append, show v.cells.toList.length = n from Array.length_toList.trans h1]); rw [e2]; exact hc) h2 (by rw [List.length_drop]; omega) (fun j hj => by
      have := hp (j + 1) (by simp only [List.length_cons]; omega)
      rwa [List.getElem?_cons_succ, show i + (j + 1) = i + 1 + j by omega] at this)]
    rw [List.flatMap_cons, List.drop_drop, List.map_cons, List.sum_cons]
    simp only [List.append_assoc]
end Go.Proofs.YtdmnhpgafbcehaaDoor
set_option maxRecDepth 100000
namespace Go.Proofs.YtdmnhpgafbcehaaDoor
open Go.ChangeShapes Go.WideShapes Go.ChangeAt Go.RowKit
attribute [local go_sem] GivesE
/-- What is known of a value: its kind, what a world holds of it, one of the kind. -/
structure Sp where
  S : Value → Prop
  D : Value → World → Prop
  v0 : Value
structure Sp.ok (c : Sp) : Prop where
  some : c.S c.v0
  keep : ∀ v w1 w2, c.D v w1 → Below w1.heap.size w1 w2 → c.D v w2
def lkSp : List (Nat × Sp) → Nat → Option Sp
  | [], _ => none
  | (p, c) :: r, j => if j = p then some c else lkSp r j
def yS (fx : List (Option Value)) (sp : List (Nat × Sp)) (j : Nat) (v : Value) : Prop := match lkSp sp j with
  | some c => c.S v
  | none => match fx[j]? with
    | some (some u) => v = u
    | _ => True
def yV (fx : List (Option Value)) (sp : List (Nat × Sp)) (j : Nat) : Value := match lkSp sp j with
  | some c => c.v0
  | none => match fx[j]? with
    | some (some u) => u
    | _ => undef
theorem lk_mem : ∀ {sp : List (Nat × Sp)} {j : Nat} {c : Sp}, lkSp sp j = some c → ∃ p, (p, c) ∈ sp
  | [], _, _, h => by cases h
  | (p, d) :: r, j, c, h => by
    unfold lkSp at h
    split at h
    · cases h; exact ⟨p, List.mem_cons_self⟩
    · obtain ⟨q, hq⟩ := lk_mem h
      exact ⟨q, List.mem_cons_of_mem _ hq⟩
theorem yS_ok (fx : List (Option Value)) {sp : List (Nat × Sp)} (h : ∀ x ∈ sp, x.2.ok) (j : Nat) : yS fx sp j (yV fx sp j) := by
  unfold yS yV
  split
  · rename_i c hc
    obtain ⟨p, hp⟩ := lk_mem hc
    exact (h _ hp).some
  · split
    · rfl
    · trivial
def yD (sp : List (Nat × Sp)) (j : Nat) (vs : Nat → Value) (w : World) : Prop := match lkSp sp j with
  | some c => c.D (vs j) w
  | none => True
theorem yD_keep {sp : List (Nat × Sp)} (h : ∀ x ∈ sp, x.2.ok) {j : Nat} {vs : Nat → Value} {w1 w2 : World} (hd : yD sp j vs w1) (hb : Below w1.heap.size w1 w2) : yD sp j vs w2 := by
  unfold yD at hd ⊢
  split
  · rename_i c hc
    rw [hc] at hd
    obtain ⟨p, hp⟩ := lk_mem hc
    exact (h _ hp).keep _ _ _ hd hb
  · trivial
theorem yD_loc {sp : List (Nat × Sp)} {i j : Nat} {vs : Nat → Value} {v : Value} {w : World} (hji : j ≠ i) (h : yD sp j vs w) : yD sp j (updV vs i v) w := by
  unfold yD at h ⊢
  rw [updV_ne _ _ hji]
  exact h
theorem yD_some {sp : List (Nat × Sp)} {p : Nat} {c : Sp} {vs : Nat → Value} {v : Value} {w : World} (hc : lkSp sp p = some c) (h : c.D v w) : yD sp p (updV vs p v) w := by
  unfold yD
  rw [hc, updV_self]
  exact h
theorem wp_region_y {id : Nat} {Q : Exit → Act → World → Prop} {a : Act} {w : World} {l : List Oper} (fx : List (Option Value)) (sp : List (Nat × Sp)) (hsp : ∀ x ∈ sp, x.2.ok)
    (n : Nat) (hm : Tryd.prog.follows .mixedOrders = true) (ht : tidy l.toArray = true) (hB : tailB l.toArray n = true)
    (h : ∀ vs : Nat → Value, wpE Tryd.prog l.toArray (yS fx sp) (yD sp) (fun _ _ w w' => Below w.heap.size w w') (fun _ w' => Below w.heap.size w w') (fun vs a' => ∀ (d : Nat → Bool) w', (∀ k, k < n → d k = true) → Below w.heap.size w w' → (∀ k, k < n → yD sp k vs w') → wpList Tryd.prog l.toArray Q (l.drop n) a' w') 0 vs (l.take n) a) :
    (Code.region id l.toArray true).wp Tryd.prog Q a w :=
  wp_region_ex (S := yS fx sp) (D := yD sp) (K := fun _ _ w w' => Below w.heap.size w w') (C := fun _ w' => Below w.heap.size w w') n hm ht hB _ (yS_ok fx hsp) (fun i j vs w w' _ _ _ h hb => yD_keep hsp h hb)
    (fun j i vs v w hji _ h => yD_loc hji h) (Below.refl _ _).drew h
end Go.Proofs.YtdmnhpgafbcehaaDoor
set_option maxRecDepth 100000
namespace Go.Proofs.YtdmnhpgafbcehaaDoor
open Go.ChangeShapes Go.WideShapes Go.ChangeAt Go.RowKit
section
variable {α : Type} {k : Nat} {en : α → List Value} {E L : TypeId}
theorem run_lit1 (hE : EltX E k en) (hu : Tryd.prog.underlying L = some (.slice E)) (x : α) {v : Value} (hv : v.cells.toList = en x) (hk : k ≤ 1000) (w : World) :
    (Instr.buildSlice L 1 #[(0, v)]).run Tryd.prog w = .ok (.slice (some ⟨w.heap.size, 0, none⟩) 1 1) (w.alloc (.cells (en x).toArray E)) := by
  obtain ⟨ie, z, hi, hz, h1, h2, h3⟩ := hE.info
  refine run_buildSlice w L E 1 _ _ ie z hu hi hz (by rw [h1]; omega) (by rw [h1]; have := hE.pos; omega) ?_
  have hcs : v.cells.size = k := by rw [← Array.length_toList, hv, hE.len]
  have := fill_consec (place := fun i => some (i * ie.size, ie.size)) [v] [(0, k)] [] (((Array.range (1 * ie.size)).map (z.cells[· % z.cells.size]!)).toList) 0 ⟨rfl, trivial⟩ (by simp [hcs]) (by simp [h1]) (fun j hj => by
    have : j = 0 := by simp at hj; exact hj
    subst this
    simp [h1])
  simp only [List.nil_append, List.map_cons, List.map_nil, List.sum_cons, List.sum_nil, Nat.add_zero, List.flatMap_cons, List.flatMap_nil, List.append_nil, hv] at this
  rw [List.drop_eq_nil_of_le (by simp [h1]), List.append_nil, Array.toArray_toList] at this
  exact this
/-- What such a literal is. -/
theorem sli_lit1 {S : Nat → Prop} (hE : EltX E k en) (x : α) (w : World) (hS : S w.heap.size) : Sli k en S (w.alloc (.cells (en x).toArray E)) (some ⟨w.heap.size, 0, none⟩) [x] 1 1 where
  len := rfl
  cap := Nat.le_refl _
  max := by unfold maxLen; omega
  none e := by cases e
  lst _ := ⟨w.heap.size, 0, rfl, hS, by simp, fun i y hi j u hj => by
    have hb : Blk (w.alloc (.cells (en x).toArray E)) w.heap.size E (en x).toArray := Blk.new _ _ _
    cases i with
    | zero =>
      simp only [List.getElem?_cons_zero, Option.some.injEq] at hi
      subst hi
      rw [Nat.zero_add, Nat.zero_mul, Nat.zero_add, hb.cell]
      simpa using hj
    | succ i => simp at hi⟩
variable {ops : Array Oper} {Q : Exit → Act → World → Prop} {a : Act} {w : World} {rest : List Oper} {dst : Option Tmp} {ty : TypeId} {pos : String} {after : Array Edge} {o : Operand} {x : α} {v : Value}
theorem wlit1 (hE : EltX E k en) (hu : Tryd.prog.underlying L = some (.slice E)) (hk : k ≤ 1000) (ho : a.eval o = v) (hv : v.cells.toList = en x)
    (h : wpList Tryd.prog ops Q rest (a.put dst (.slice (some ⟨w.heap.size, 0, none⟩) 1 1)) (w.alloc (.cells (en x).toArray E))) :
    wpList Tryd.prog ops Q (⟨dst, .buildSlice L 1 #[(0, o)], ty, pos, after, none⟩ :: rest) a w := by
  have hm : (#[(0, o)] : Array (Nat × Operand)).map (fun (i, x) => (i, a.eval x)) = #[(0, v)] := by
    simp only [List.map_toArray, List.map_cons, List.map_nil, ho]
  refine wpList_plain rfl fun K hK => ?_
  unfold Oper.wp execOp
  simp only [Sem.run_bind, hm, run_lit1 hE hu x hv hk w, Result.andThen_ok, Sem.run_pure]
  exact hK _ _ h
theorem gE_lit1 {gd : Option (Nat × Bool)} {R : Value → World → Prop} (hE : EltX E k en) (hu : Tryd.prog.underlying L = some (.slice E)) (hk : k ≤ 1000) (ho : a.eval o = v) (hv : v.cells.toList = en x)
    (h : R (.slice (some ⟨w.heap.size, 0, none⟩) 1 1) (w.alloc (.cells (en x).toArray E))) : GivesE Tryd.prog ⟨dst, .buildSlice L 1 #[(0, o)], ty, pos, after, gd⟩ a w R := by
  have hm : (#[(0, o)] : Array (Nat × Operand)).map (fun (i, x) => (i, a.eval x)) = #[(0, v)] := by
    simp only [List.map_toArray, List.map_cons, List.map_nil, ho]
  unfold GivesE execOp
  simp only [Sem.run_bind, hm, run_lit1 hE hu x hv hk w, Result.andThen_ok, Sem.run_pure]
  exact h
/-- A slice of these elements, wherever it lies in blocks of S. -/
def spX (k : Nat) (en : α → List Value) (S : Nat → Prop) (l : List α) : Sp := ⟨fun v => ∃ (A : Option Addr) (c : Nat), v = .slice A l.length c, fun v w => ∃ (A : Option Addr) (c : Nat), v = .slice A l.length c ∧ Sli k en S w A l l.length c, .slice none l.length 0⟩
theorem spX_ok (k : Nat) (en : α → List Value) (S : Nat → Prop) (l : List α) : (spX k en S l).ok := ⟨⟨none, 0, rfl⟩, fun v w1 w2 ⟨A, c, h1, h2⟩ hb => ⟨A, c, h1, h2.turn (Turn.of_new (S := fun _ => False) hb) fun _ _ _ e => e⟩⟩
end
end Go.Proofs.YtdmnhpgafbcehaaDoor
