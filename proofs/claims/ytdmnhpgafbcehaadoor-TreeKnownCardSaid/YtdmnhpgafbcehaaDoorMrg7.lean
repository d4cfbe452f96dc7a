/-
  The document's Check.
  Trees of tags in plain numbers: own proofs are taken; what another proof that is taken means; what one leaf turns.
  What the program's tree answers, as hypotheses of the laws (TreeC): repT = how it lies in memory, and in which blocks.
  An empty slice of bytes that is made with room.
  Texts' bytes: looked at one by one, laid behind bytes of the call's own; one byte of the call's own turned.
  Contracts of bytes.isWidth, copied, lay, Num and Text over this translation.
  Contracts of bytes.lay, Num and Text over this translation.
  Contracts of the document's Width, Digits, Value, Num and Text (casemateref06) over this translation.
  What comes in, number by number.
  Slices of bytes that come in.
  Slices of slices of bytes that come in.
  Contracts of the document's Text and Row (casemateref06), and of bytes.Row, over this translation.
  Contract of bytes.Row over this translation.
  The landed tags: message, and the messages of one part.
  The landed tags: numbered, LeafText, NodeText; LeafC and RestC.
  The landed tags: Join, Split; JoinC.
  The landed tags: Of, Leaf, Node, Label, Head, Body; TagC.
  The landed tree in memory; its small functions: heights, leaves, find, a node's sector.
  Lists of rows of K bytes: 'copy' of one that lies somewhere into one of the call's own, from a place on.
  The landed tree: New.
  Loops over functions: what a loop may turn; an append to what a box holds.
-/
import Derived.Test.YtdmnhpgafbcehaaDoorMrg6
import Derived.Laws.MakeOwn
import Derived.Laws.OwnMore
import Derived.Lib.AppendStr
import Derived.Deep.Slices
import Derived.OpenShut
import Derived.ChangeMaps5
import Derived.ChangeSlices
import Derived.Laws.CopyOwn
import Derived.Laws.Cover3
import Derived.RangeFuncNested
import Derived.RangeFuncBound
import Derived.RangeFuncCalls
import Derived.RangeFuncLeaves
import Derived.RangeFuncBox
import Derived.Maps.AppendAt
set_option linter.unusedVariables false
set_option linter.unusedSimpArgs false
set_option maxRecDepth 100000
namespace Go.Proofs.YtdmnhpgafbcehaaDoor
open Go.ChangeShapes Go.WideShapes Go.ChangeAt Go.RowKit
attribute [local go_sem] Gives
namespace TrM
open TgP RwP
/-- One of a sector's two tags. -/
def half (b : Nat) (s : Nat → Nat) : Nat → Nat := if b = 0 then s else fun j => s (32 + j)
/-- Do the sectors lead from the tag of the number below to the top? -/
def chkF (k : Nat → Nat) (P : Nat → Nat → Nat) (top : Nat → Nat) : Nat → Nat → Nat → (Nat → Nat) → Bool
  | 0, _, _, tag => eqA 32 tag top
  | m + 1, i, below, tag => eqA 32 (half (below % 2) (P i)) tag && chkF k P top m (i + 1) (below / 2) (ndT k (below / 2) (P i))
def chk (k : Nat → Nat) (leaf : Int) (tag : Nat → Nat) (n : Nat) (P : Nat → Nat → Nat) (top : Nat → Nat) : Bool := decide (pathOk n leaf) && chkF k P top n 0 (2 ^ n + leaf.toNat) tag
theorem chk_no {k : Nat → Nat} {leaf : Int} {tag : Nat → Nat} {n : Nat} {P : Nat → Nat → Nat} {top : Nat → Nat} (h : ¬ pathOk n leaf) : chk k leaf tag n P top = false := by
  unfold chk; rw [decide_eq_false h]; rfl
theorem chk_yes {k : Nat → Nat} {leaf : Nat} {tag : Nat → Nat} {n : Nat} {P : Nat → Nat → Nat} {top : Nat → Nat} (h : pathOk n leaf) : chk k leaf tag n P top = chkF k P top n 0 (2 ^ n + leaf) tag := by
  unfold chk; rw [decide_eq_true h, Bool.true_and, Int.toNat_natCast]
end TrM
end Go.Proofs.YtdmnhpgafbcehaaDoor
set_option maxRecDepth 100000
namespace Go.Proofs.YtdmnhpgafbcehaaDoor
open Go.RowKit
namespace TrM
open TgP RwP
theorem eqA_refl (n : Nat) (f : Nat → Nat) : eqA n f f = true := eqA_yes fun _ _ => rfl
theorem half_nd {t : Tr} {b : Nat} : ∀ i, i < 32 → half (b % 2) (t.nd (b / 2)) i = t.tg b i := fun i hi => by
  unfold half Tr.nd joined
  rcases (show b % 2 = 0 ∨ b % 2 = 1 by omega) with h | h
  · rw [h, if_pos rfl, if_pos hi, show 2 * (b / 2) = b by omega]
  · rw [h, if_neg (by omega)]
    show (if 32 + i < 32 then _ else _) = _
    rw [if_neg (by omega), show 2 * (b / 2) + 1 = b by omega, show 32 + i - 32 = i by omega]
theorem chk_own_from {t : Tr} {leaf : Nat} (hl : leaf < t.n) : ∀ (m i b : Nat), i + m = t.h → b / 2 = pth t.h leaf i → 1 ≤ b → b < 2 * t.n → (m = 0 → b = 1) → chkF t.k (prf t leaf) (t.tg 1) m i b (t.tg b) = true
  | 0, i, b, hi, _, _, _, h0 => by
    rw [h0 rfl]
    exact eqA_refl _ _
  | m + 1, i, b, hi, hb, h1, h2, _ => by
    unfold chkF
    have hp : prf t leaf i = t.nd (b / 2) := by unfold prf; rw [hb]
    have hp1 : 1 ≤ b / 2 := by rw [hb]; exact pth_pos (by omega)
    have hp2 : b / 2 < t.n := by rw [hb]; exact pth_lt hl
    rw [hp, eqA_yes half_nd, Bool.true_and, ← Tr.tg_node hp1 hp2]
    refine chk_own_from hl m (i + 1) (b / 2) (by omega) (by rw [hb, pth_succ]) hp1 (by omega) fun hm => ?_
    subst hm
    rw [hb, show i = t.h - 1 by omega]
    exact pth_last hl (by omega)
/-- A leaf's own tag and proof are taken. -/
theorem chk_own {t : Tr} (h1 : 1 ≤ t.h) (h2 : t.h ≤ 12) {leaf : Nat} (hl : leaf < t.n) : chk t.k leaf (t.L leaf) t.h (prf t leaf) (t.tg 1) = true := by
  rw [chk_yes ⟨⟨by omega, by omega⟩, by omega, by rw [Int.toNat_natCast]; show (leaf : Int) < ((t.n : Nat) : Int); omega⟩]
  have hle : t.L leaf = t.tg (2 ^ t.h + leaf) := by
    rw [Tr.tg_leaf (by show 2 ^ t.h ≤ _; omega)]
    congr 1
    show leaf = 2 ^ t.h + leaf - 2 ^ t.h
    omega
  rw [hle]
  exact chk_own_from hl t.h 0 _ (by omega) (pth_zero _ _).symm (by have := t.n_pos; show 1 ≤ t.n + leaf; omega) (by show t.n + leaf < _; omega) fun h => by omega
end TrM
end Go.Proofs.YtdmnhpgafbcehaaDoor
set_option maxRecDepth 100000
namespace Go.Proofs.YtdmnhpgafbcehaaDoor
open Go.ChangeShapes Go.WideShapes Go.ChangeAt Go.RowKit
namespace TrM
open TgP RwP
abbrev RepT := World → Nat → (Nat → Prop) → Tr → Prop
abbrev pT (g : Nat) : Value := .pointer (some ⟨g, 0, none⟩)
structure TreeC (repT : RepT) : Prop where
  lt : ∀ {w g M t}, repT w g M t → g < w.heap.size ∧ ∀ b, M b → b < w.heap.size
  keep : ∀ {w w' g M t} {S : Nat → Prop}, repT w g M t → Turn S w w' → (∀ b, M b → ¬ S b) → repT w' g M t
  wf : ∀ {w g M t}, repT w g M t → 1 ≤ t.h ∧ t.h ≤ 12 ∧ (∀ i, t.k i < 256) ∧ ∀ i j, t.L i j < 256
  newNo : ∀ (k : Nat → Nat) (h : Int) (A : Option Addr) (m cap : Nat), (h < 1 ∨ 12 < h ∨ (okH h ∧ 2 ^ h.toNat < m)) → ∀ w : World,
    Calls Tryd.prog 10 #[.agg (ar 32 k), .int .i64 h, .slice A m cap] w fun e w' => e = .returned (.tuple #[.pointer none, .int .i64 2]) ∧ Below w.heap.size w w'
  new : ∀ (k : Nat → Nat), (∀ i, k i < 256) → ∀ (h : Nat), okH h → ∀ (A : Option Addr) (F : Nat → Nat → Nat), (∀ i j, F i j < 256) → ∀ (m cap : Nat), m ≤ 2 ^ h → ∀ (S : Nat → Prop) (w : World), SliF 32 S w A m F cap → Salts w →
    Calls Tryd.prog 10 #[.agg (ar 32 k), .int .i64 (h : Nat), .slice A m cap] w fun e w' => ∃ (g : Nat) (M : Nat → Prop), e = .returned (.tuple #[pT g, .int .i64 0]) ∧ repT w' g M ⟨k, h, newL m F⟩ ∧ (∀ b, M b → w.heap.size ≤ b) ∧ Below w.heap.size w w'
  top : ∀ {w : World} {g : Nat} {M : Nat → Prop} {t : Tr}, repT w g M t → Salts w →
    Calls Tryd.prog 22 #[pT g] w fun e w' => e = .returned (.agg (ar 32 (t.tg 1))) ∧ Below w.heap.size w w'
  set : ∀ {w : World} {g : Nat} {M : Nat → Prop} {t : Tr} (leaf : Nat) (f : Nat → Nat), leaf < t.n → (∀ i, f i < 256) → repT w g M t → Salts w →
    Calls Tryd.prog 12 #[pT g, .int .i64 leaf, .agg (ar 32 f)] w fun e w' => ∃ (v : Value) (M' : Nat → Prop), e = .returned (.tuple #[v, .int .i64 0]) ∧ OwnI w' w.heap.size v (chg t (t.set leaf f) leaf) ∧ repT w' g M' (t.set leaf f) ∧ (∀ b, M' b → M b ∨ w.heap.size ≤ b) ∧ (∀ b, v.ownBlock = some b → ¬ M' b) ∧ Turn M w w'
  proof : ∀ {w : World} {g : Nat} {M : Nat → Prop} {t : Tr} (leaf : Nat), leaf < t.n → repT w g M t → Salts w →
    Calls Tryd.prog 19 #[pT g, .int .i64 leaf] w fun e w' => ∃ v, e = .returned (.tuple #[v, .int .i64 0]) ∧ OwnF 50 64 w' w.heap.size v t.h (prf t leaf) ∧ Below w.heap.size w w'
  check : ∀ (k f top : Nat → Nat), (∀ i, k i < 256) → ∀ (leaf : Int) (A : Option Addr) (P : Nat → Nat → Nat), (∀ i j, P i j < 256) → ∀ (n cap : Nat), ∀ (S : Nat → Prop) (w : World), SliF 64 S w A n P cap → Salts w →
    Calls Tryd.prog 23 #[.agg (ar 32 k), .int .i64 leaf, .agg (ar 32 f), .slice A n cap, .agg (ar 32 top)] w fun e w' => e = .returned (.bool (chk k leaf f n P top)) ∧ Below w.heap.size w w'
/-- Beside these, what some of the laws ask. -/
structure TreeD (repT : RepT) : Prop where
  tagNo : ∀ {w : World} {g : Nat} {M : Nat → Prop} {t : Tr} (j : Int), ¬ t.has j → repT w g M t → Salts w →
    Calls Tryd.prog 15 #[pT g, .int .i64 j] w fun e w' => e = .returned (.tuple #[.agg (ar 32 fun _ => 0), .int .i64 2]) ∧ Below w.heap.size w w'
  tag : ∀ {w : World} {g : Nat} {M : Nat → Prop} {t : Tr} (j : Nat), t.has j → repT w g M t → Salts w →
    Calls Tryd.prog 15 #[pT g, .int .i64 j] w fun e w' => e = .returned (.tuple #[.agg (ar 32 (t.tg j)), .int .i64 0]) ∧ Below w.heap.size w w'
  nodNo : ∀ {w : World} {g : Nat} {M : Nat → Prop} {t : Tr} (j : Int), ¬ t.hasN j → repT w g M t → Salts w →
    Calls Tryd.prog 17 #[pT g, .int .i64 j] w fun e w' => e = .returned (.tuple #[.agg (ar 64 fun _ => 0), .int .i64 2]) ∧ Below w.heap.size w w'
  nod : ∀ {w : World} {g : Nat} {M : Nat → Prop} {t : Tr} (j : Nat), t.hasN j → repT w g M t → Salts w →
    Calls Tryd.prog 17 #[pT g, .int .i64 j] w fun e w' => e = .returned (.tuple #[.agg (ar 64 (t.nd j)), .int .i64 0]) ∧ Below w.heap.size w w'
  setNo : ∀ {w : World} {g : Nat} {M : Nat → Prop} {t : Tr} (leaf : Int) (f : Nat → Nat), ¬ (0 ≤ leaf ∧ leaf < (t.n : Nat)) → repT w g M t → Salts w →
    Calls Tryd.prog 12 #[pT g, .int .i64 leaf, .agg (ar 32 f)] w fun e w' => e = .returned (.tuple #[.slice none 0 0, .int .i64 2]) ∧ Below w.heap.size w w'
  proofNo : ∀ {w : World} {g : Nat} {M : Nat → Prop} {t : Tr} (leaf : Int), ¬ (0 ≤ leaf ∧ leaf < (t.n : Nat)) → repT w g M t → Salts w →
    Calls Tryd.prog 19 #[pT g, .int .i64 leaf] w fun e w' => e = .returned (.tuple #[.slice none 0 0, .int .i64 2]) ∧ Below w.heap.size w w'
  pathNo : ∀ (h leaf : Int), ¬ pathOk h leaf → ∀ w : World, Calls Tryd.prog 25 #[.int .i64 h, .int .i64 leaf] w fun e w' => ∃ v, e = .returned v ∧ OwnI w' w.heap.size v [] ∧ Below w.heap.size w w'
  path : ∀ (h leaf : Nat), okH h → leaf < 2 ^ h → ∀ w : World, Calls Tryd.prog 25 #[.int .i64 (h : Nat), .int .i64 (leaf : Nat)] w fun e w' => ∃ v, e = .returned v ∧ OwnI w' w.heap.size v (pthL h leaf) ∧ Below w.heap.size w w'
end TrM
end Go.Proofs.YtdmnhpgafbcehaaDoor
set_option maxRecDepth 100000
namespace Go.Proofs.YtdmnhpgafbcehaaDoor
open Go.ChangeShapes Go.WideShapes Go.ChangeAt Go.RowKit
/-- An empty slice with room. -/
theorem mk0 {ops : Array Oper} {Q : Exit → Act → World → Prop} {a : Act} {w : World} {rest : List Oper} {dst : Option Tmp} {ty : TypeId} {pos : String} {after : Array Edge} {x y : Operand} {n : Nat} (hn : n ≤ 1000000)
    (hx : a.eval x = .int .i64 0) (hy : a.eval y = .int .i64 (n : Int)) (h : ∀ v w', Own 5 .u8 w' w.heap.size v [] → Below w.heap.size w w' → wpList Tryd.prog ops Q rest (a.put dst v) w') :
    wpList Tryd.prog ops Q (⟨dst, .makeSlice 91 x y, ty, pos, after, none⟩ :: rest) a w := by
  obtain ⟨i, hi, hz, h1, h2⟩ := eltB.inf
  obtain ⟨w', hr, ho, hg⟩ := run_make_own (P := Tryd.prog) w w.heap.size 91 5 i (.int .u8 0) 1 eltB.und hi hz h1 .i64 .i64 n (Nat.le_trans (Nat.mul_le_mul h2 hn) (by omega)) (by unfold maxLen; omega) (Nat.le_refl _)
  refine wpList_plain rfl fun K hK => ?_
  unfold Oper.wp execOp
  simp only [Sem.run_bind, hx, hy, hr, Result.andThen_ok]
  exact hK _ _ (h _ w' ho (below_none (Below.refl _ _) hg (Nat.le_refl _)))
end Go.Proofs.YtdmnhpgafbcehaaDoor
set_option maxRecDepth 100000
namespace Go.Proofs.YtdmnhpgafbcehaaDoor
open Go.ChangeShapes Go.WideShapes Go.ChangeAt Go.RowKit
/-- A text's bytes. -/
def nats (s : ByteArray) : List Nat := s.data.toList.map (·.toNat)
section
variable {ops : Array Oper} {Q : Exit → Act → World → Prop} {a : Act} {w : World} {rest : List Oper} {dst : Option Tmp} {ty : TypeId} {pos : String} {after : Array Edge} {s x : Operand} {B g n cap i : Nat} {v : Value} {l : List Nat} {t : ByteArray}
end
/-- Where it lies, and what is in its cells. -/
theorem Own.at {w : World} {B : Nat} {v : Value} {l : List Nat} (h : Own 5 .u8 w B v l) (hl : 0 < l.length) : ∃ g cap, v = .slice (some ⟨g, 0, none⟩) l.length cap ∧ B ≤ g ∧ g < w.heap.size ∧ l.length ≤ cap ∧ cap ≤ maxLen ∧ ∀ i, i < l.length → w.cell? ⟨g, i, none⟩ = some (.int .u8 (l.getD i 0 : Nat)) ∧ w.frozen? ⟨g, i, none⟩ = false := by
  rcases h.2 with ⟨rfl, h0⟩ | ⟨g, cap, cur, rfl, hB, hg, hnc, hcm, hcs, ht⟩
  · omega
  · have hb : Blk w g 5 cur := hg
    refine ⟨g, cap, rfl, hB, hb.lt, hnc, hcm, fun i hi => ⟨?_, hb.frozen i⟩⟩
    rw [hb.cell]
    have h1 := nums_get .u8 hi
    rw [← ht, List.getElem?_take_of_lt (by omega), Array.getElem?_toList] at h1
    exact h1
theorem Own.put {w : World} {B g n cap i x : Nat} {l : List Nat} (h : Own 5 .u8 w B (.slice (some ⟨g, 0, none⟩) n cap) l) (_hi : i < l.length) :
    Own 5 .u8 (w.setCell ⟨g, i, none⟩ (.int .u8 (x : Nat))) B (.slice (some ⟨g, 0, none⟩) n cap) (l.set i x) := by
  rcases h.2 with ⟨e, h0⟩ | ⟨g2, cap2, cur, e, hB, hg, hnc, hcm, hcs, ht⟩
  · cases e
  · have e2 := e
    simp only [Value.slice.injEq, Option.some.injEq, Addr.mk.injEq, and_true] at e2
    obtain ⟨rfl, rfl, rfl⟩ := e2
    have hb : Blk w g 5 cur := hg
    refine ⟨?_, .inr ⟨g, cap, cur.setIfInBounds i (.int .u8 (x : Nat)), by rw [List.length_set], hB, hb.setCell_same i _, by rw [List.length_set]; exact hnc, hcm, by rw [Array.size_setIfInBounds]; exact hcs, ?_⟩⟩
    · simp [nums]
    · rw [Array.toList_setIfInBounds, List.length_set, List.take_set, ht]
      unfold nums
      rw [List.map_set]
theorem Own.other {e : TypeId} {k : IntKind} {w : World} {B g g' n cap : Nat} {l : List Nat} {cs : Array Value} (h : Own e k w B (.slice (some ⟨g, 0, none⟩) n cap) l) (hne : g' ≠ g) : Own e k (w.setRow g' cs) B (.slice (some ⟨g, 0, none⟩) n cap) l := by
  rcases h.2 with ⟨e', _⟩ | ⟨g2, cap2, cur, e', hB, hg, hr⟩
  · cases e'
  · have e2 := e'
    simp only [Value.slice.injEq, Option.some.injEq, Addr.mk.injEq, and_true] at e2
    obtain ⟨rfl, _, _⟩ := e2
    exact ⟨h.1, .inr ⟨_, cap2, cur, e', hB, Blk.setRow_other (t := e) (cs := cur) hg hne _, hr⟩⟩
end Go.Proofs.YtdmnhpgafbcehaaDoor
set_option maxRecDepth 100000
namespace Go.Proofs.YtdmnhpgafbcehaaDoor
open Go.ChangeShapes Go.WideShapes Go.ChangeAt Go.RowKit
attribute [local go_sem] Gives
end Go.Proofs.YtdmnhpgafbcehaaDoor
set_option maxRecDepth 100000
namespace Go.Proofs.YtdmnhpgafbcehaaDoor
open Go.ChangeShapes Go.WideShapes Go.ChangeAt Go.RowKit
attribute [local go_sem] Gives
theorem shr_cast (n j : Nat) : ((n : Int) / 2 ^ (8 * j) % 256) = ((n / 256 ^ j % 256 : Nat) : Int) := by
  have h : (256 : Nat) ^ j = 2 ^ (8 * j) := by rw [Nat.pow_mul]
  rw [h]
  simp
set_option maxHeartbeats 400000 in
theorem lay_any (v : Value) (l : List Nat) (B m n : Nat) (hm : m ≤ 8) (hsz : l.length ≤ 900000) (W : World) (ho : Own 5 .u8 W B v l) (hB : B ≤ W.heap.size) :
    Calls Tryd.prog 68 #[v, .int .i64 m, .int .u64 n] W fun e w' => ∃ v', e = .returned v' ∧ Own 5 .u8 w' B v' (l ++ BytM.dig m n) ∧ Below B W w' := by
  have HO := hid ho
  have HB := hid hB
  have HZ := hid hsz
  clear ho hB hsz
  go_enter Tryd.func68, Tryd.ntmps68
  go_wp2_with fail
  go_loopw [0, 9] (fun u i wr => ∃ (k : Nat) (vo : Value), k ≤ m ∧ i = .int .i64 k ∧ u = vo ∧ Hid (Own 5 .u8 wr B vo (l ++ (BytM.dig m n).take k)) ∧ Hid (Below B W wr)) (fun _ i _ => m - (intOf i).toNat)
  case atStart => exact ⟨0, _, by omega, rfl, rfl, hid (by rw [List.take_zero, List.append_nil]; exact HO.out), hid (Below.refl _ _)⟩
  case round =>
    obtain ⟨k, vo, hk, rfl, rfl, ho, hb⟩ := hrel
    by_cases hlt : k < m
    · have ti : (k : Int) < (m : Int) := by omega
      have hst := BytM.dig_step (n := n) hlt
      have hlen : ((BytM.dig m n).take k).length = k := by rw [List.length_take, BytM.dig_length]; omega
      have hx := shr_cast n (m - 1 - k)
      generalize n / 256 ^ (m - 1 - k) % 256 = x at *
      have HX := hid hx
      have HST := hid hst
      have HLEN := hid hlen
      have hzw := hb.out.size
      clear hx hst hlen
      go_wp2_with (at_builtin; (with_reducible apply wappN eltB); rfl; rfl; exact ho.out.alloc _; exact nums_one (x := x) (B := wr.heap.size + 1) (congrArg (Value.int .u8) HX.out) (Nat.lt_succ_self _); rfl; (rw [List.length_append, HLEN.out]; have := HZ.out; omega); (simp; have := HB.out; omega); intro v' w4 o4 g4)
      have b4 := below_grown (hb.out.alloc (Nat.le_trans HB.out hzw) (.cells #[.int .u8 (x : Nat)] 5)) (by rw [← HX.out]; exact g4) ho.out (Nat.le_refl _) HB.out
      go_roundw
      case rel => exact ⟨k + 1, v', by omega, by go_num, rfl, hid (by rw [HST.out, ← List.append_assoc]; exact o4), hid b4⟩
      case measure => simp [intOf]; omega
    · obtain rfl : k = m := by omega
      have ho2 := ho.out
      rw [List.take_of_length_le (by rw [BytM.dig_length]; exact Nat.le_refl _)] at ho2
      have O2 := hid ho2
      clear ho2 ho
      go_wp2_with fail
      go_ret
      exact ⟨_, rfl, O2.out, hb.out⟩
end Go.Proofs.YtdmnhpgafbcehaaDoor
set_option maxRecDepth 100000
namespace Go.Proofs.YtdmnhpgafbcehaaDoor
open Go.ChangeShapes Go.WideShapes Go.ChangeAt Go.RowKit
attribute [local go_sem] Gives
theorem B256.getD {l : List Nat} (h : B256 l) (k : Nat) : l.getD k 0 < 256 := by
  rw [List.getD_eq_getElem?_getD]
  cases e : l[k]? with
  | none => simp
  | some x => simp only [Option.getD_some]; exact h x (List.mem_of_getElem? e)
end Go.Proofs.YtdmnhpgafbcehaaDoor
set_option maxRecDepth 100000
namespace Go.Proofs.YtdmnhpgafbcehaaDoor
open Go.ChangeShapes Go.WideShapes Go.ChangeAt Go.RowKit Go.Deep
end Go.Proofs.YtdmnhpgafbcehaaDoor
set_option maxRecDepth 100000
namespace Go.Proofs.YtdmnhpgafbcehaaDoor
open Go.ChangeShapes Go.WideShapes Go.ChangeAt Go.RowKit Go.Deep
section
variable {H : Type} {enc : TypeId × Value → H} {w : World} {base : Nat} {spare : Nat → Bool} {held : Bool}
end
end Go.Proofs.YtdmnhpgafbcehaaDoor
set_option maxRecDepth 100000
namespace Go.Proofs.YtdmnhpgafbcehaaDoor
open Go.ChangeShapes Go.WideShapes Go.ChangeAt Go.RowKit Go.Deep
/-- A slice of slices of bytes that came in; a part that is nil has no bytes and no room. -/
def PrtsN (w : World) (B : Nat) (A : Option Addr) (ls : List (List Nat)) : Prop :=
  0 < ls.length → ∃ b o, A = some ⟨b, o, none⟩ ∧ b < B ∧ ∀ i, i < ls.length → ∃ A' c, w.cell? ⟨b, o + i, none⟩ = some (.slice A' (ls.getD i []).length c) ∧ (ls.getD i []).length ≤ c ∧ c ≤ maxLen ∧ Byt w B A' (ls.getD i []) ∧ (A' = none → (ls.getD i []).length = 0 ∧ c = 0)
theorem PrtsN.below {B B' : Nat} {w w' : World} {A : Option Addr} {ls : List (List Nat)} (h : PrtsN w B A ls) (hb : Below B' w w') (hB : B ≤ B') : PrtsN w' B A ls := fun hn => by
  obtain ⟨b, o, rfl, hl, hr⟩ := h hn
  refine ⟨b, o, rfl, hl, fun i hi => ?_⟩
  obtain ⟨A', c, h1, h2, h3, h4, h5⟩ := hr i hi
  exact ⟨A', c, (hb.cell (p := ⟨b, o + i, none⟩) (by show b < B'; omega)).trans h1, h2, h3, h4.below hb hB, h5⟩
theorem PrtsN.more {w : World} {B B' : Nat} {A : Option Addr} {ls : List (List Nat)} (h : PrtsN w B A ls) (hB : B ≤ B') : PrtsN w B' A ls := fun hn => by
  obtain ⟨b, o, rfl, hl, hr⟩ := h hn
  refine ⟨b, o, rfl, by omega, fun i hi => ?_⟩
  obtain ⟨A', c, h1, h2, h3, h4, h5⟩ := hr i hi
  exact ⟨A', c, h1, h2, h3, h4.more hB, h5⟩
section
variable {H : Type} {enc : TypeId × Value → H} {w : World} {base : Nat} {spare : Nat → Bool} {held : Bool}
end
end Go.Proofs.YtdmnhpgafbcehaaDoor
set_option maxRecDepth 100000
namespace Go.Proofs.YtdmnhpgafbcehaaDoor
open Go.ChangeShapes Go.WideShapes Go.ChangeAt Go.RowKit
attribute [local go_sem] Gives
/-- Slices of slices that are not large. -/
structure Rws (w : World) (A : Option Addr) (ls : List (List Nat)) (n cp : Nat) : Prop where
  len : ls.length = n
  cap : n ≤ cp
  max : cp ≤ maxLen
  b256 : ∀ l ∈ ls, B256 l
  none : A = none → n = 0 ∧ cp = 0
  prts : PrtsN w w.heap.size A ls
theorem Rws.on {w w' : World} {A : Option Addr} {ls : List (List Nat)} {n cap : Nat} (h : Rws w A ls n cap) (hb : Below w.heap.size w w') : Rws w' A ls n cap where
  len := h.len
  cap := h.cap
  max := h.max
  b256 := h.b256
  none := h.none
  prts := (h.prts.below hb (Nat.le_refl _)).more hb.size
theorem getD_mem {ls : List (List Nat)} {i : Nat} (h : i < ls.length) : ls.getD i [] ∈ ls := by
  rw [List.getD_eq_getElem?_getD, List.getElem?_eq_getElem h]; exact List.getElem_mem h
theorem Rws.part {w : World} {A : Option Addr} {ls : List (List Nat)} {n cap : Nat} (h : Rws w A ls n cap) {i : Nat} (hi : i < n) :
    ∃ b o A' c, A = some ⟨b, o, .none⟩ ∧ b < w.heap.size ∧ w.cell? ⟨b, o + i, .none⟩ = some (.slice A' (ls.getD i []).length c) ∧ Arg w A' (ls.getD i []) (ls.getD i []).length c := by
  obtain ⟨b, o, rfl, hl, hr⟩ := h.prts (by rw [h.len]; omega)
  obtain ⟨A', c, h1, h2, h3, h4, h5⟩ := hr i (by rw [h.len]; exact hi)
  exact ⟨b, o, A', c, rfl, hl, h1, rfl, h2, h3, h.b256 _ (getD_mem (by rw [h.len]; exact hi)), h5, h4⟩
theorem flatP_step {ls : List (List Nat)} {i : Nat} (h : i < ls.length) : BytM.flatP (ls.take (i + 1)) = BytM.flatP (ls.take i) ++ (BytM.dig 4 (ls.getD i []).length ++ ls.getD i []) := by
  have e : ls.getD i [] = ls[i] := by rw [List.getD_eq_getElem?_getD, List.getElem?_eq_getElem h]; rfl
  rw [List.take_succ_eq_append_getElem h, ← e, BytM.flatP_append]
  show _ ++ (BytM.dig 4 _ ++ _ ++ []) = _
  rw [List.append_nil]
theorem flatP_take_le (ls : List (List Nat)) (i : Nat) : (BytM.flatP (ls.take i)).length ≤ (BytM.flatP ls).length := by
  conv => rhs; rw [← List.take_append_drop i ls, BytM.flatP_append, List.length_append]
  omega
end Go.Proofs.YtdmnhpgafbcehaaDoor
set_option maxRecDepth 100000
namespace Go.Proofs.YtdmnhpgafbcehaaDoor
open Go.ChangeShapes Go.WideShapes Go.ChangeAt Go.RowKit
attribute [local go_sem] Gives
theorem dig1 {d : Nat} (h : d < 256) : BytM.dig 1 d = [d] := by
  show [d / 256 ^ 0 % 256] = [d]
  rw [Nat.pow_zero, Nat.div_one, Nat.mod_eq_of_lt h]
set_option maxHeartbeats 400000 in
theorem prow_any (d : Nat) (hd : d < 256) (A : Option Addr) (ls : List (List Nat)) (n cap : Nat) (hn : n ≤ 16) (hz : (BytM.flatP ls).length ≤ 800000) (W : World) (h : Rws W A ls n cap) :
    Calls Tryd.prog 60 #[.int .u8 d, .slice A n cap] W fun e w' => ∃ v, e = .returned (.tuple #[v, .int .i64 0]) ∧ Own 5 .u8 w' W.heap.size v (BytM.rowB d ls) ∧ Below W.heap.size W w' := by
  have t : decide ((16 : Int) < (n : Int)) = false := decide_eq_false (by omega)
  have H := hid h
  have HZ := hid hz
  have D1 := hid (dig1 hd)
  have N1 := hid (dig1 (d := n) (by omega))
  clear h hz
  go_enter Tryd.func60, Tryd.ntmps60
  go_wp2_with fail
  clear t
  go_loopw [6, 17] (fun u i wr => ∃ (k L : Nat), k ≤ n ∧ i = .int .i64 k ∧ u = .int .i64 ((2 + L : Nat) : Int) ∧ L ≤ 800000 ∧ Hid (L = (BytM.flatP (ls.take k)).length) ∧ W = wr) (fun _ i _ => n - (intOf i).toNat)
  case atStart => exact ⟨0, 0, by omega, rfl, rfl, by omega, hid rfl, rfl⟩
  case round =>
    obtain ⟨k, L, hk, rfl, rfl, hL, hLe, rfl⟩ := hrel
    by_cases hlt : k < n
    · have tk : (k : Int) < (n : Int) := by omega
      obtain ⟨b, o, A', c, rfl, _, q1, _⟩ := H.out.part hlt
      have hst := flatP_step (ls := ls) (i := k) (by rw [H.out.len]; exact hlt)
      have hle := flatP_take_le ls (k + 1)
      have hst2 := congrArg List.length hst
      rw [List.length_append, List.length_append, BytM.dig_length, ← hLe.out] at hst2
      have hM : (ls.getD k []).length ≤ 800000 := by have := HZ.out; omega
      generalize (ls.getD k []).length = M at *
      have hL2 : L + (4 + M) ≤ 800000 := by have := HZ.out; omega
      have S2 := hid hst2.symm
      clear hst hle hst2
      go_wp2_with fail
      go_roundw
      case rel => exact ⟨k + 1, L + (4 + M), by omega, by go_num, by go_num, hL2, S2, trivial⟩
      case measure => simp [intOf] <;> omega
    · obtain rfl : k = n := by omega
      have hL2 := hLe.out
      rw [List.take_of_length_le (by rw [H.out.len]; exact Nat.le_refl _)] at hL2
      have HL2 := hid hL2
      clear hL2 hLe
      have hk64 : (k : Int) ≤ 16 := by omega
      go_upto_region 10 with ((with_reducible apply mk0 (n := 2 + L)); omega; rfl; rfl; intro v2 w2 o2 b2)
      have O2 := hid o2
      have B2 := hid b2
      clear o2 b2
      go_wp2_with fail
      refine (lay_any _ [] W.heap.size 1 d (by omega) (by simp) w2 O2.out B2.out.size).mono ?_
      rintro e w3 ⟨v3, rfl, o3, b3⟩
      rw [D1.out, List.nil_append] at o3
      have O3 := hid o3
      have B3 := hid (B2.out.trans b3)
      clear o3 b3 O2 B2
      go_wp2_with fail
      refine (lay_any v3 [d] W.heap.size 1 k (by omega) (by simp) w3 O3.out B3.out.size).mono ?_
      rintro e w4 ⟨v4, rfl, o4, b4⟩
      rw [N1.out] at o4
      have O4 := hid o4
      have B4 := hid (B3.out.trans b4)
      clear o4 b4 O3 B3
      go_wp2_with fail
      go_loopw [9, 40] (fun u i wr => ∃ (j : Nat) (vo : Value), j ≤ k ∧ i = .int .i64 j ∧ u = vo ∧ Hid (Own 5 .u8 wr W.heap.size vo (d :: k :: BytM.flatP (ls.take j))) ∧ Hid (Below W.heap.size W wr)) (fun _ i _ => k - (intOf i).toNat)
      case atStart => exact ⟨0, _, by omega, rfl, rfl, O4, B4⟩
      case round =>
        clear O4 B4
        obtain ⟨j, vo, hj, rfl, rfl, ho, hb⟩ := hrel
        by_cases hlt2 : j < k
        · have tj : (j : Int) < (k : Int) := by omega
          obtain ⟨b, o, A', c, rfl, hbl, q0, a1⟩ := H.out.part hlt2
          have q1 := (hb.out.cell (p := ⟨b, o + j, none⟩) hbl).trans q0
          have hst := flatP_step (ls := ls) (i := j) (by rw [H.out.len]; exact hlt2)
          have hle := flatP_take_le ls (j + 1)
          rw [hst, List.length_append, List.length_append, BytM.dig_length] at hle
          have hM : (ls.getD j []).length ≤ 800000 := by have := HZ.out; omega
          have hLt : (BytM.flatP (ls.take j)).length ≤ 800000 := by have := HZ.out; omega
          have HLT := hid hLt
          have ST := hid hst
          generalize ls.getD j [] = m at *
          have A1 := hid a1
          have HLE := hid (Nat.le_trans hle HZ.out)
          clear hst hle hLt a1 q0
          obtain ⟨M, hMe⟩ : ∃ M, M = m.length := ⟨_, rfl⟩
          rw [← hMe] at q1 hM
          have ME := hid hMe
          clear hMe
          go_wp2_with fail
          refine (lay_any u9 _ W.heap.size 4 M (by omega) (by simp only [List.length_cons]; have := HLT.out; omega) wr ho.out hb.out.size).mono ?_
          rintro e w5 ⟨v5, rfl, o5, b5⟩
          have O5 := hid o5
          have B5 := hid (hb.out.trans b5)
          have a5 := A1.out.on B5.out
          rw [← ME.out] at a5
          have A5 := hid a5
          clear o5 b5 a5 q1
          go_wp2_with (at_builtin; (with_reducible apply wappN_any eltB); rfl; rfl; exact A5.out.none; exact O5.out; exact A5.out.byt.nums; exact ME.out.symm; (simp only [List.length_append, List.length_cons, BytM.dig_length]; have := HLE.out; have := ME.out; omega); exact B5.out.size; intro v6 w6 o6 g6)
          have b6 := below_grown B5.out g6 O5.out (Nat.le_refl _) (Nat.le_refl _)
          go_roundw
          case rel => exact ⟨j + 1, v6, by omega, by go_num, rfl, hid (by rw [ST.out, ← ME.out, ← List.append_assoc]; exact o6), hid b6⟩
          case measure => simp [intOf] <;> omega
        · obtain rfl : j = k := by omega
          have ho2 := ho.out
          rw [List.take_of_length_le (by rw [H.out.len]; exact Nat.le_refl _)] at ho2
          have O2 := hid ho2
          have HN := hid H.out.len
          clear ho2 ho
          go_wp2_with fail
          go_ret2
          refine ⟨_, rfl, ?_, hb.out⟩
          unfold BytM.rowB
          rw [HN.out]
          exact O2.out
end Go.Proofs.YtdmnhpgafbcehaaDoor
set_option maxRecDepth 100000
namespace Go.Proofs.YtdmnhpgafbcehaaDoor
open Go.ChangeShapes Go.WideShapes Go.ChangeAt Go.RowKit
attribute [local go_sem] Gives
namespace TgP
/-- Parts of a message that lie in one block of slices. -/
theorem rws_lit {w : World} {g n : Nat} {t : TypeId} {cs : Array Value} {ls : List (List Nat)} (hb : Blk w g t cs) (hn : ls.length = n) (hm : n ≤ 1000) (h : ∀ i, i < ls.length → ∃ A' c, cs[i]? = some (.slice A' (ls.getD i []).length c) ∧ Arg w A' (ls.getD i []) (ls.getD i []).length c) : Rws w (some ⟨g, 0, none⟩) ls n n where
  len := hn
  cap := Nat.le_refl _
  max := by unfold maxLen; omega
  b256 l hl := by
    obtain ⟨i, hi⟩ := List.getElem?_of_mem hl
    have hi' := (List.getElem?_eq_some_iff.1 hi).1
    obtain ⟨A', c, _, h2⟩ := h i hi'
    have e : ls.getD i [] = l := by rw [List.getD_eq_getElem?_getD, hi]; rfl
    rw [e] at h2
    exact h2.b256
  none h := by cases h
  prts _ := ⟨g, 0, rfl, hb.lt, fun i hi => by
    obtain ⟨A', c, h1, h2⟩ := h i hi
    exact ⟨A', c, by rw [Nat.zero_add, hb.cell i, h1], h2.cap, h2.max, h2.byt, fun e => by have := h2.none e; exact this⟩⟩
theorem ar_arg {w : World} {g n : Nat} {t : TypeId} {f : Nat → Nat} (h : Blk w g t (ar n f)) (hf : ∀ i, f i < 256) (hn : n ≤ 100000) : Arg w (some ⟨g, 0, none⟩) (ls n f) (ls n f).length n where
  len := rfl
  cap := by rw [ls_length]; exact Nat.le_refl _
  max := by unfold maxLen; omega
  b256 := ls_256 hf
  none e := by cases e
  byt := fun _ => ⟨g, 0, rfl, h.lt, fun i hi => by
    rw [ls_length] at hi
    rw [Nat.zero_add, h.cell, get_ar hi]
    unfold ls
    rw [List.getD_eq_getElem?_getD, List.getElem?_map, List.getElem?_range hi]; rfl⟩
set_option maxHeartbeats 400000 in
theorem message_any (d : Nat) (hd : d < 256) (A : Option Addr) (ls : List (List Nat)) (n cap : Nat) (hn : n ≤ 16) (hz : (BytM.flatP ls).length ≤ 800000) (W : World) (h : Rws W A ls n cap) :
    Calls Tryd.prog 55 #[.int .u8 d, .slice A n cap] W fun e w' => ∃ v, e = .returned v ∧ Own 5 .u8 w' W.heap.size v (BytM.rowB d ls) ∧ Below W.heap.size W w' := by
  have HC := hid (prow_any d hd A ls n cap hn hz W h)
  clear h hz hn hd
  go_enter Tryd.func55, Tryd.ntmps55
  go_wp2_with fail
  refine HC.out.mono ?_
  rintro e w2 ⟨v, rfl, o2, h2⟩
  have O2 := hid o2
  have B2 := hid h2
  clear o2 h2 HC
  go_wp2_with fail
  go_ret
  exact ⟨_, rfl, O2.out, B2.out⟩
theorem flat2 {l m : List Nat} : (BytM.flatP [l, m]).length = 8 + l.length + m.length := by
  show (BytM.dig 4 l.length ++ l ++ (BytM.dig 4 m.length ++ m ++ [])).length = _
  rw [List.append_nil, List.length_append, List.length_append, List.length_append, BytM.dig_length, BytM.dig_length]; omega
theorem rws2 {w : World} {g n cap m cap2 : Nat} {t : TypeId} {A B : Option Addr} {l k : List Nat} (hb : Blk w g t #[.slice A n cap, .slice B m cap2]) (h : Arg w A l n cap) (h2 : Arg w B k m cap2) : Rws w (some ⟨g, 0, none⟩) [l, k] 2 2 :=
  rws_lit hb rfl (by omega) fun i hi => by
    have hi' : i = 0 ∨ i = 1 := by simp at hi; omega
    rcases hi' with rfl | rfl
    · have e : ([l, k] : List (List Nat)).getD 0 [] = l := rfl
      rw [e, h.len]
      exact ⟨A, cap, rfl, h⟩
    · have e : ([l, k] : List (List Nat)).getD 1 [] = k := rfl
      rw [e, h2.len]
      exact ⟨B, cap2, rfl, h2⟩
end TgP
end Go.Proofs.YtdmnhpgafbcehaaDoor
set_option maxRecDepth 100000
namespace Go.Proofs.YtdmnhpgafbcehaaDoor
open Go.ChangeShapes Go.WideShapes Go.ChangeAt Go.RowKit
attribute [local go_sem] Gives
namespace TgP
theorem t8 : ArT 99 8 := ⟨by kernel_rfl, ⟨_, Tryd.underlying99, rfl⟩, (zero_of_info (P := Tryd.prog) (t := 99) (v := .agg (ar 8 fun _ => 0)) (n := 8) (by kernel_rfl)).1⟩
/-- The bytes of a number, the highest first. -/
def dgF (n j : Nat) : Nat := n / 256 ^ (7 - j) % 256
theorem dgF_lt (n j : Nat) : dgF n j < 256 := Nat.mod_lt _ (by omega)
theorem dgF_ls (n : Nat) : ls 8 (dgF n) = BytM.dig 8 n := rfl
theorem shr8 {U i : Nat} (h : i < 8) : (U : Int) / 2 ^ (8 * (7 - i)) % 256 = ((dgF U i : Nat) : Int) := by
  have e : (256 : Nat) ^ (7 - i) = 2 ^ (8 * (7 - i)) := by rw [Nat.pow_mul]
  unfold dgF
  rw [e]
  simp
set_option maxHeartbeats 400000 in
set_option maxRecDepth 100000 in
theorem numbered_any (d : Nat) (hd : d < 256) (num : Int) (s : Nat → Nat) (hs : ∀ i, s i < 256) (w : World) :
    Calls Tryd.prog 51 #[.int .u8 d, .int .i64 num, .agg (ar 64 s)] w fun e w' => ∃ v, e = .returned v ∧ Own 5 .u8 w' w.heap.size v (numT d num s) ∧ Below w.heap.size w w' := by
  have HF := hid hs
  have HD := hid hd
  have hbi : num % 18446744073709551616 = ((bits num : Nat) : Int) := by unfold bits; omega
  have hul := bits_lt num
  clear hs hd
  go_enter Tryd.func51, Tryd.ntmps51
  go_upto_region 1 with fail
  generalize hw1 : World.alloc w _ = w1
  have B1 := hid (show Blk w1 w.heap.size 50 (ar 64 s) by rw [← hw1]; exact Blk.new _ _ _)
  have BEL := hid (show Below w.heap.size w w1 by rw [← hw1]; exact (Below.refl _ _).alloc (Nat.le_refl _) _)
  clear hw1
  have hl1 := B1.out.lt
  go_upto_region 2 with fail
  rw [show IntKind.u64.wrap num = ((bits num : Nat) : Int) from hbi]
  clear hbi
  obtain ⟨U, hU⟩ : ∃ U, U = bits num := ⟨_, rfl⟩
  rw [← hU] at hul ⊢
  have HUE := hid hU
  clear hU
  have hz : Blk (w1.alloc (.cells (ar 8 fun _ => 0) 99)) w1.heap.size 99 (ar 8 fun _ => 0) := Blk.new _ _ _
  obtain ⟨g, hg⟩ : ∃ g, g = w1.heap.size := ⟨_, rfl⟩
  go_upto_region 3 with (with_reducible apply alA t8)
  rw [← hg] at hz hl1 ⊢
  generalize hw2 : World.alloc w1 _ = w2 at hz ⊢
  have B2 := hid (show Blk w2 w.heap.size 50 (ar 64 s) by rw [← hw2]; exact B1.out.alloc _)
  have BE2 := hid (show Below w.heap.size w w2 by rw [← hw2]; exact BEL.out.alloc BEL.out.size _)
  have Z2 := hid hz
  clear hw2 B1 BEL hz hg
  go_wp2_with fail
  go_loopw [12] (fun v wr => ∃ i : Nat, i ≤ 8 ∧ v = .int .i64 i ∧ Hid (Blk wr w.heap.size 50 (ar 64 s)) ∧ Hid (Blk wr g 99 (ar 8 (upTo i (fun _ => 0) (dgF U)))) ∧ Hid (Below w.heap.size w wr)) (fun v _ => 8 - (intOf v).toNat)
  case atStart => exact ⟨0, by omega, rfl, B2, hid (by rw [upTo_zero]; exact Z2.out), BE2⟩
  case round =>
    clear B2 BE2 Z2
    obtain ⟨i, hi, rfl, b1, b2, hb⟩ := hrel
    by_cases hlt : i < 8
    · have ti : (i : Int) < 8 := by omega
      have c3 := b2.out.frozen i
      have c4 := (b2.out.cell i).trans (get_ar hlt)
      have hx := shr8 (U := U) hlt
      go_wp2_with fail
      go_roundw
      case rel => exact ⟨i + 1, by omega, by go_num, hid (b1.out.setCell_other (by show g ≠ _; omega) _), hid (upTo_step (b2.out.setCell_same i _)), hid (hb.out.setCell (by show w.heap.size ≤ g; omega) _)⟩
      case measure => simp [intOf]; omega
    · obtain rfl : i = 8 := by omega
      have e8 := b2.out
      rw [upTo_all (Nat.le_refl 8)] at e8
      have hgl := b2.out.lt
      have hwl := b1.out.lt
      have aN := ar_arg e8 (dgF_lt U) (by omega)
      have aS := ar_arg b1.out HF.out (by omega)
      rw [dgF_ls, BytM.dig_length] at aN
      rw [ls_length] at aS
      have AN := hid aN
      have AS := hid aS
      clear e8 aN aS b1 b2
      go_upto_region 8 with fail
      refine wp_region_put (C := Put wr (.cells #[.slice (some ⟨g, 0, none⟩) 8 8, .slice (some ⟨w.heap.size, 0, none⟩) 64 64] 91)) 3 4 (by omega) (by kernel_rfl) (by kernel_rfl) (by kernel_rfl) (Drew.refl _) ?_
      simp only [List.take_succ_cons, List.take_zero, List.drop_succ_cons, List.drop_zero]
      apply wpS_val
      · decide
      · rfl
      · intro bb w' hw'
        go_simp
        first | exact rfl | exact ⟨rfl, hw'⟩
      simp only [Act.put, List.setIfInBounds_toArray, List.set_cons_succ, List.set_cons_zero]
      apply wpS_val
      · decide
      · rfl
      · intro bb w' hw'
        go_simp
        first | exact rfl | exact ⟨rfl, hw'⟩
      simp only [Act.put, List.setIfInBounds_toArray, List.set_cons_succ, List.set_cons_zero]
      apply wpS_val
      · decide
      · rfl
      · intro bb w' hw'
        go_simp
        first | exact rfl | exact ⟨rfl, hw'⟩
      simp only [Act.put, List.setIfInBounds_toArray, List.set_cons_succ, List.set_cons_zero]
      apply wpS_put
      · rfl
      · rfl
      · intro w' hw'
        have hw2 : Drew wr w' := hw'
        have hzz := hw2.heap
        go_simp
        exact ⟨rfl, w', hw2, rfl⟩
      simp only [Act.put, List.setIfInBounds_toArray, List.set_cons_succ, List.set_cons_zero]
      refine wpS_nil fun w8 hw8 => ?_
      obtain ⟨w7, h7, rfl⟩ := hw8
      have hz7 : wr.heap.size = w7.heap.size := by rw [h7.heap]
      have b7 := h7.below hb.out
      have a7 := AN.out.on (h7.below (Below.refl wr.heap.size wr))
      have s7 := AS.out.on (h7.below (Below.refl wr.heap.size wr))
      have bl : Blk (w7.alloc (.cells #[.slice (some ⟨g, 0, none⟩) 8 8, .slice (some ⟨w.heap.size, 0, none⟩) 64 64] 91)) wr.heap.size 91 #[.slice (some ⟨g, 0, none⟩) 8 8, .slice (some ⟨w.heap.size, 0, none⟩) 64 64] := by rw [hz7]; exact Blk.new _ _ _
      have ba : Below w7.heap.size w7 (w7.alloc (.cells #[.slice (some ⟨g, 0, none⟩) 8 8, .slice (some ⟨w.heap.size, 0, none⟩) 64 64] 91)) := (Below.refl _ _).alloc (Nat.le_refl _) _
      have BE9 := hid (b7.trans (ba.mono b7.size))
      have HR := hid (rws2 bl (a7.on ba) (s7.on ba))
      generalize World.alloc w7 _ = w9 at BE9 HR ⊢
      have HZ := hid (show (BytM.flatP [BytM.dig 8 U, ls 64 s]).length ≤ 800000 by rw [flat2, BytM.dig_length, ls_length]; omega)
      clear bl ba a7 s7 b7 AN AS h7 hz7
      go_wp2_with fail
      refine (message_any d HD.out _ _ 2 2 (by omega) HZ.out w9 HR.out).mono ?_
      rintro e w2 ⟨v, rfl, o2, h2⟩
      rw [HUE.out] at o2
      have O2 := hid (ownDown o2 BE9.out.size)
      have B3 := hid (BE9.out.trans (h2.mono BE9.out.size))
      clear o2 h2 HR HZ
      go_wp2_with fail
      go_ret
      exact ⟨_, rfl, O2.out, B3.out⟩
set_option maxHeartbeats 400000 in
set_option maxRecDepth 100000 in
theorem nodetext_any : NumText 44 78 := fun num hn s hs w => by
  have HF := hid hs
  clear hs
  go_enter Tryd.func44, Tryd.ntmps44
  go_upto_region 1 with fail
  generalize hw1 : World.alloc w _ = w1
  have B1 := hid (show Blk w1 w.heap.size 50 (ar 64 s) by rw [← hw1]; exact Blk.new _ _ _)
  have hb := hid (show Below w.heap.size w w1 by rw [← hw1]; exact (Below.refl _ _).alloc (Nat.le_refl _) _)
  clear hw1
  go_wp2_with ((with_reducible apply ldA tS); rfl; exact B1.out)
  refine (numbered_any 78 (by omega) num s HF.out w1).mono ?_
  rintro e w2 ⟨v, rfl, o2, h2⟩
  have O2 := hid (ownDown o2 hb.out.size)
  have B3 := hid (hb.out.trans (h2.mono hb.out.size))
  clear o2 h2 B1
  go_wp2_with fail
  go_ret
  exact ⟨_, rfl, O2.out, B3.out⟩
end TgP
end Go.Proofs.YtdmnhpgafbcehaaDoor
set_option maxRecDepth 100000
namespace Go.Proofs.YtdmnhpgafbcehaaDoor
open Go.ChangeShapes Go.WideShapes Go.ChangeAt Go.RowKit
attribute [local go_sem] Gives GivesE
namespace TgP
section
variable {ops : Array Oper} {Q : Exit → Act → World → Prop} {a : Act} {w : World} {rest : List Oper} {dst : Option Tmp} {ty : TypeId} {pos : String} {after : Array Edge} {d s : Operand}
/-- A row of bytes copied into the middle of another one. -/
theorem wcopyA {g o n N m cap' cap g' : Nat} {t t' : TypeId} {f h : Nat → Nat} (hd : a.eval d = .slice (some ⟨g, o, none⟩) m cap') (hs : a.eval s = .slice (some ⟨g', 0, none⟩) n cap) (hg : Blk w g t (ar N f)) (hsrc : Blk w g' t' (ar n h)) (hnm : n ≤ m) (hfit : o + n ≤ N)
    (hk : wpList Tryd.prog ops Q rest (a.put dst (goInt n)) (w.setRow g (ar N (putA o n f h)))) :
    wpList Tryd.prog ops Q (⟨dst, .call { callee := .builtin .copy, args := #[d, s], argTypes := #[91, 91] }, ty, pos, after, none⟩ :: rest) a w := by
  have hlen : (ar n h).toList.length = n := by rw [Array.length_toList, size_ar]
  refine wpList_copy_own rfl d s 91 91 rfl 5 Tryd.underlying91 (by kernel_rfl) g o m cap' ⟨g', 0, none⟩ n cap hd hs (ar N f) t hg (ar n h).toList (by rw [hlen]; exact (Nat.min_eq_left hnm).symm) ?_ (by rw [hlen, size_ar]; omega) ?_ ?_
  · intro j v hj
    obtain ⟨hj', rfl⟩ := ar_list_get hj
    rw [Addr.add_mid, hsrc.cell, Nat.zero_add, get_ar hj']
  · intro v hv
    exact (Array.all_eq_true_iff_forall_mem.1 ar_one) v (by simpa using hv)
  · rw [hlen]
    have e : (List.take o (ar N f).toList ++ ((ar n h).toList ++ (ar N f).toList.drop (o + n))).toArray = ar N (putA o n f h) := by
      have hto : (List.take o (ar N f).toList).length = o := by rw [List.length_take, Array.length_toList, size_ar]; omega
      apply Array.ext_getElem?
      intro k
      rw [List.getElem?_toArray, List.getElem?_append, hto]
      by_cases hk : k < o
      · rw [if_pos hk, List.getElem?_take_of_lt hk, Array.getElem?_toList, get_ar (by omega), get_ar (by omega)]
        unfold putA; rw [if_neg (by omega)]
      · rw [if_neg hk, List.getElem?_append, hlen]
        by_cases hk2 : k - o < n
        · rw [if_pos hk2, Array.getElem?_toList, get_ar hk2, get_ar (by omega)]
          unfold putA; rw [if_pos (by omega)]
        · rw [if_neg hk2, List.getElem?_drop, Array.getElem?_toList, show o + n + (k - o - n) = k by omega]
          unfold ar
          rw [get_row, get_row]
          by_cases hk3 : k < N
          · rw [if_pos hk3, if_pos hk3]; unfold putA; rw [if_neg (by omega)]
          · rw [if_neg hk3, if_neg hk3]
    rw [e]
    exact hk
end
theorem putA_joined (f g : Nat → Nat) : ar 64 (putA 32 32 (putA 0 32 (fun _ => 0) f) g) = ar 64 (joined f g) := ar_ext fun j hj => by
  unfold putA joined
  by_cases h : j < 32
  · rw [if_neg (by omega), if_pos (by omega), if_pos h]; rfl
  · rw [if_pos (by omega), if_neg h]
set_option maxHeartbeats 400000 in
set_option maxRecDepth 100000 in
theorem join_any (f g : Nat → Nat) (w : World) :
    Calls Tryd.prog 28 #[.agg (ar 32 f), .agg (ar 32 g)] w fun e w' => e = .returned (.agg (ar 64 (joined f g))) ∧ Below w.heap.size w w' := by
  go_enter Tryd.func28, Tryd.ntmps28
  go_upto_region 1 with (with_reducible apply alA tS)
  rw [show ((w.alloc (.cells (ar 32 f) 36)).alloc (.cells (ar 32 g) 36)).heap.size = w.heap.size + 2 by simp]
  generalize hw1 : World.alloc (World.alloc (World.alloc w _) _) _ = w1
  have B1 := hid (show Blk w1 w.heap.size 36 (ar 32 f) by rw [← hw1]; exact ((Blk.new _ _ _).alloc _).alloc _)
  have B2 := hid (show Blk w1 (w.heap.size + 1) 36 (ar 32 g) by rw [← hw1]; exact (Blk.top rfl (by simp)).alloc _)
  have B3 := hid (show Blk w1 (w.heap.size + 2) 50 (ar 64 fun _ => 0) by rw [← hw1]; exact Blk.top rfl (by simp))
  have BEL := hid (show Below w.heap.size w w1 by rw [← hw1]; exact (((Below.refl _ _).alloc (Nat.le_refl _) _).alloc (by simp) _).alloc (by simp; omega) _)
  clear hw1
  have hl := B3.out.lt
  obtain ⟨gt, hgt⟩ : ∃ gt, gt = w1.heap.size := ⟨_, rfl⟩
  have hz : Blk (w1.alloc (.cells (ar 64 fun _ => 0) 50)) w1.heap.size 50 (ar 64 fun _ => 0) := Blk.new _ _ _
  go_upto_region 2 with (with_reducible apply alA tS)
  rw [← hgt] at hz hl ⊢
  generalize hw2 : World.alloc w1 _ = w2 at hz ⊢
  have C1 := hid (show Blk w2 w.heap.size 36 (ar 32 f) by rw [← hw2]; exact B1.out.alloc _)
  have C2 := hid (show Blk w2 (w.heap.size + 1) 36 (ar 32 g) by rw [← hw2]; exact B2.out.alloc _)
  have C3 := hid (show Blk w2 (w.heap.size + 2) 50 (ar 64 fun _ => 0) by rw [← hw2]; exact B3.out.alloc _)
  have CB := hid (show Below w.heap.size w w2 by rw [← hw2]; exact BEL.out.alloc BEL.out.size _)
  have CZ := hid hz
  clear hw2 B1 B2 B3 BEL hgt hz
  refine wp_region_tail (C := Drew w2) 2 (by kernel_rfl) (by kernel_rfl) (by kernel_rfl) (Drew.refl _) ?_
  simp only [List.take_succ_cons, List.take_zero, List.drop_succ_cons, List.drop_zero]
  apply wpK_val
  · rfl
  · intro w' hw'
    go_simp
    first | exact rfl | exact ⟨rfl, hw'⟩
  simp only [Act.put, List.setIfInBounds_toArray, List.set_cons_succ, List.set_cons_zero]
  apply wpK_val
  · rfl
  · intro w' hw'
    go_simp
    first | exact rfl | exact ⟨rfl, hw'⟩
  simp only [Act.put, List.setIfInBounds_toArray, List.set_cons_succ, List.set_cons_zero]
  refine wpK_nil fun w3 h3 => ?_
  have d1 := hid (h3.blk C1.out)
  have d2 := hid (h3.blk C2.out)
  have d3 := hid (h3.blk C3.out)
  have dz := hid (h3.blk CZ.out)
  have db := hid (h3.below CB.out)
  clear h3 C1 C2 C3 CZ CB
  go_upto_region 3 with ((with_reducible apply wcopyA); rfl; rfl; exact dz.out; exact d1.out; omega; omega)
  generalize hw4 : World.setRow w3 _ _ = w4
  have e2 := hid (show Blk w4 (w.heap.size + 1) 36 (ar 32 g) by rw [← hw4]; exact d2.out.setRow_other (by omega) _)
  have e3 := hid (show Blk w4 (w.heap.size + 2) 50 (ar 64 fun _ => 0) by rw [← hw4]; exact d3.out.setRow_other (by omega) _)
  have ez := hid (show Blk w4 gt 50 (ar 64 (putA 0 32 (fun _ => 0) f)) by rw [← hw4]; exact dz.out.setRow_same _)
  have eb := hid (show Below w.heap.size w w4 by rw [← hw4]; exact below_setRow db.out (by omega) _)
  clear hw4 d1 d2 d3 dz db
  refine wp_region_tail (C := Drew w4) 2 (by kernel_rfl) (by kernel_rfl) (by kernel_rfl) (Drew.refl _) ?_
  simp only [List.take_succ_cons, List.take_zero, List.drop_succ_cons, List.drop_zero]
  apply wpK_val
  · rfl
  · intro w' hw'
    go_simp
    first | exact rfl | exact ⟨rfl, hw'⟩
  simp only [Act.put, List.setIfInBounds_toArray, List.set_cons_succ, List.set_cons_zero]
  apply wpK_val
  · rfl
  · intro w' hw'
    go_simp
    first | exact rfl | exact ⟨rfl, hw'⟩
  simp only [Act.put, List.setIfInBounds_toArray, List.set_cons_succ, List.set_cons_zero]
  refine wpK_nil fun w5 h5 => ?_
  have f2 := hid (h5.blk e2.out)
  have f3 := hid (h5.blk e3.out)
  have fz := hid (h5.blk ez.out)
  have fb := hid (h5.below eb.out)
  clear h5 e2 e3 ez eb
  go_upto_region 4 with ((with_reducible apply wcopyA); rfl; rfl; exact fz.out; exact f2.out; omega; omega)
  generalize hw6 : World.setRow w5 _ _ = w6
  have g3 := (show Blk w6 (w.heap.size + 2) 50 (ar 64 fun _ => 0) by rw [← hw6]; exact f3.out.setRow_other (by omega) _)
  have gz := (show Blk w6 gt 50 (ar 64 (joined f g)) by rw [← hw6, ← putA_joined]; exact fz.out.setRow_same _)
  have gb := hid (show Below w.heap.size w w6 by rw [← hw6]; exact below_setRow fb.out (by omega) _)
  clear hw6 f2 f3 fz fb
  go_wp2_with (first | ((with_reducible apply ldA tS); rfl; exact gz) | ((with_reducible apply stA tS); rfl; rfl; exact g3))
  apply ret_ar tS Tryd.results28
  · rfl
  · rfl
  · exact g3.setRow_same _
  exact ⟨rfl, below_setRow gb.out (by omega) _⟩
theorem run_tagAt (g o c : Nat) (w : World) : (Instr.arrayAt 36 (.slice (some ⟨g, o, none⟩) 32 c)).run Tryd.prog w = .ok (.pointer (some ⟨g, o, none⟩)) w := run_arrayAt w 36 5 32 _ _ _ Tryd.underlying36 (Nat.le_refl _)
/-- A sector, and two tags laid as a call's answers. -/
def T6 (g g0 g1 : Nat) (B : Nat) (w : World) (f K F : Nat → Nat) (d : Nat → Bool) (w' : World) : Prop :=
  Blk w' g 50 (ar 64 f) ∧ Blk w' g0 36 (ar 32 (if d 6 then K else fun _ => 0)) ∧ Blk w' g1 36 (ar 32 (if d 7 then F else fun _ => 0)) ∧ Below B w w'
set_option maxHeartbeats 400000 in
set_option maxRecDepth 100000 in
theorem split_any (f : Nat → Nat) (w : World) :
    Calls Tryd.prog 46 #[.agg (ar 64 f)] w fun e w' => e = .returned (.tuple #[.agg (ar 32 f), .agg (ar 32 fun j => f (32 + j))]) ∧ Below w.heap.size w w' := by
  go_enter Tryd.func46, Tryd.ntmps46
  go_upto_region 1 with (with_reducible apply alA tT)
  try rw [show ((w.alloc (.cells (ar 64 f) 50)).alloc (.cells (ar 32 fun _ => 0) 36)).heap.size = w.heap.size + 2 by simp]
  try rw [show (w.alloc (.cells (ar 64 f) 50)).heap.size = w.heap.size + 1 by simp]
  generalize hw1 : World.alloc (World.alloc (World.alloc w _) _) _ = w1
  have B1 := show Blk w1 w.heap.size 50 (ar 64 f) by rw [← hw1]; exact ((Blk.new _ _ _).alloc _).alloc _
  have B2 := show Blk w1 (w.heap.size + 1) 36 (ar 32 fun _ => 0) by rw [← hw1]; exact (Blk.top rfl (by simp)).alloc _
  have B3 := show Blk w1 (w.heap.size + 2) 36 (ar 32 fun _ => 0) by rw [← hw1]; exact Blk.top rfl (by simp)
  have BEL := show Below w.heap.size w w1 by rw [← hw1]; exact (((Below.refl _ _).alloc (Nat.le_refl _) _).alloc (by simp) _).alloc (by simp; omega) _
  clear hw1
  refine wp_region_set (D := T6 w.heap.size (w.heap.size + 1) (w.heap.size + 2) w.heap.size w f f fun j => f (32 + j)) (fun j => decide (j = 6) || decide (j = 7)) 8 (fun j hj => by simp at hj; omega) (by kernel_rfl) (by kernel_rfl) (by kernel_rfl)
    (fun d d' w hd h => by unfold T6 at h ⊢; rw [← hd 6 rfl, ← hd 7 rfl]; exact h) ⟨B1.drew, B2.drew, B3.drew, BEL.drew⟩ ?_
  simp only [List.take_succ_cons, List.take_zero, List.drop_succ_cons, List.drop_zero]
  apply wpM_val
  · rfl
  · rfl
  · intro dd w' hw'
    go_simp
    first | exact rfl | exact ⟨rfl, hw'⟩
  simp only [Act.put, List.setIfInBounds_toArray, List.set_cons_succ, List.set_cons_zero]
  apply wpM_val
  · rfl
  · rfl
  · intro dd w' hw'
    have h1 := run_tagAt w.heap.size 0 64 w'
    go_simp
    first | exact rfl | exact ⟨rfl, hw'⟩
  simp only [Act.put, List.setIfInBounds_toArray, List.set_cons_succ, List.set_cons_zero]
  apply mld tT
  · rfl
  · rfl
  · rfl
  · exact fun d w' h => by
      have hr := h.1.arRange (o := 0) (m := 32) (by omega)
      rwa [ar_ext (g := f) fun k _ => by rw [Nat.zero_add]] at hr
  simp only [Act.put, List.setIfInBounds_toArray, List.set_cons_succ, List.set_cons_zero]
  apply wpM_val
  · rfl
  · rfl
  · intro dd w' hw'
    go_simp
    first | exact rfl | exact ⟨rfl, hw'⟩
  simp only [Act.put, List.setIfInBounds_toArray, List.set_cons_succ, List.set_cons_zero]
  apply wpM_val
  · rfl
  · rfl
  · intro dd w' hw'
    have h1 := run_tagAt w.heap.size 32 32 w'
    go_simp
    first | exact rfl | exact ⟨rfl, hw'⟩
  simp only [Act.put, List.setIfInBounds_toArray, List.set_cons_succ, List.set_cons_zero]
  apply mld tT
  · rfl
  · rfl
  · rfl
  · exact fun d w' h => h.1.arRange (o := 32) (m := 32) (by omega)
  simp only [Act.put, List.setIfInBounds_toArray, List.set_cons_succ, List.set_cons_zero]
  apply mst tT
  · rfl
  · rfl
  · rfl
  · rfl
  · exact fun d w' _ h => ⟨_, h.2.1⟩
  · exact fun d w' hd h => ⟨h.1.setRow_other (by omega) _, by unfold upB; simp only [if_true]; exact h.2.1.setRow_same _, h.2.2.1.setRow_other (by omega) _, below_setRow h.2.2.2 (by omega) _⟩
  simp only [Act.put]
  apply mst tT
  · rfl
  · rfl
  · rfl
  · rfl
  · exact fun d w' _ h => ⟨_, h.2.2.1⟩
  · exact fun d w' hd h => ⟨h.1.setRow_other (by omega) _, h.2.1.setRow_other (by omega) _, by unfold upB; simp only [if_true]; exact h.2.2.1.setRow_same _, below_setRow h.2.2.2 (by omega) _⟩
  simp only [Act.put]
  refine wpM_nil fun w5 h5 => ?_
  have d0 := h5.2.1
  have d1 := h5.2.2.1
  simp only [if_true] at d0 d1
  have db := h5.2.2.2
  clear B1 B2 B3 BEL h5
  go_wp2_with fail
  apply ret_ar2 tT tT Tryd.results46
  · rfl
  · rfl
  · rfl
  · exact d0
  · exact d1
  exact ⟨rfl, db⟩
end TgP
end Go.Proofs.YtdmnhpgafbcehaaDoor
set_option maxRecDepth 100000
namespace Go.Proofs.YtdmnhpgafbcehaaDoor
open Go.ChangeShapes Go.WideShapes Go.ChangeAt Go.RowKit
attribute [local go_sem] Gives GivesE
namespace TgP
theorem key_argT {w : World} {g : Nat} {t : TypeId} {k : Nat → Nat} (h : Blk w g t (ar 32 k)) : Byt w w.heap.size (some ⟨g, 0, none⟩) (HmM.dl k) := fun _ =>
  ⟨g, 0, rfl, h.lt, fun i hi => by rw [HmM.dl_length] at hi; rw [Nat.zero_add, h.cell, get_ar hi, HmM.dl_get _ hi]⟩
set_option maxHeartbeats 400000 in
set_option maxRecDepth 100000 in
theorem of_any (k : Nat → Nat) (hk : ∀ i, k i < 256) (A : Option Addr) (l : List Nat) (n cap : Nat) (hn : n ≤ 90000) (w : World) (h : Arg w A l n cap) (hS : Salts w) :
    Calls Tryd.prog 43 #[.agg (ar 32 k), .slice A n cap] w fun e w' => e = .returned (.agg (ar 32 (HmM.tag (HmM.dl k) l))) ∧ Below w.heap.size w w' := by
  have HF := hid hk
  have HN := hid hn
  have H := hid h
  have SA := hid hS
  clear hk hn h hS
  go_enter Tryd.func43, Tryd.ntmps43
  go_upto_region 1 with (with_reducible apply alA tT)
  try rw [show (w.alloc (.cells (ar 32 k) 23)).heap.size = w.heap.size + 1 by simp]
  generalize hw1 : World.alloc (World.alloc w _) _ = w1
  have B1 := hid (show Blk w1 w.heap.size 23 (ar 32 k) by rw [← hw1]; exact (Blk.new _ _ _).alloc _)
  have B2 := hid (show Blk w1 (w.heap.size + 1) 36 (ar 32 fun _ => 0) by rw [← hw1]; exact Blk.top rfl (by simp))
  have hb := hid (show Below w.heap.size w w1 by rw [← hw1]; exact ((Below.refl _ _).alloc (Nat.le_refl _) _).alloc (by simp) _)
  have sa := hid (SA.out.on hb.out)
  have A1 := hid (H.out.on hb.out)
  clear hw1 SA H
  go_wp2_with fail
  refine (hof_any _ (HmM.dl k) 32 32 (HmM.dl_length k) (Nat.le_refl _) (by unfold maxLen; omega) (by omega) (HmM.dl_256 HF.out) A l n cap A1.out.len A1.out.cap A1.out.max A1.out.b256 (by have := HN.out; omega) w1 (key_argT B1.out) A1.out.byt sa.out).mono ?_
  rintro e w4 ⟨rfl, h4⟩
  rw [show tag (HmM.tag (HmM.dl k) l) = ar 32 (HmM.tag (HmM.dl k) l) from rfl]
  obtain ⟨F, hF⟩ : ∃ F, F = HmM.tag (HmM.dl k) l := ⟨_, rfl⟩
  have HFE := hid hF
  rw [← hF]
  have d2 := B2.out.below h4 B2.out.lt
  have cd := hid (hb.out.trans (h4.mono hb.out.size))
  clear hF h4 B1 B2 hb sa A1
  go_wp2_with ((with_reducible apply stA tT); rfl; rfl; exact d2)
  apply ret_ar tT Tryd.results43
  · rfl
  · rfl
  · exact d2.setRow_same _
  exact ⟨by rw [HFE.out], below_setRow cd.out (by omega) _⟩
set_option maxHeartbeats 400000 in
set_option maxRecDepth 100000 in
theorem node_any (k : Nat → Nat) (hk : ∀ i, k i < 256) (num : Int) (hnum : -9223372036854775808 ≤ num ∧ num ≤ 9223372036854775807) (s : Nat → Nat) (hs : ∀ i, s i < 256) (w : World) (hS : Salts w) :
    Calls Tryd.prog 27 #[.agg (ar 32 k), .int .i64 num, .agg (ar 64 s)] w fun e w' => e = .returned (.agg (ar 32 (HmM.tag (HmM.dl k) (BytM.rowB 78 [BytM.dig 8 (bits num), ls 64 s])))) ∧ Below w.heap.size w w' := by
  have HK := hid hk
  have SA := hid hS
  have HS := hid hs
  have HU := hid hnum
  clear hk hs hS hnum
  obtain ⟨L, hL⟩ : ∃ L, L = BytM.rowB 78 [BytM.dig 8 (bits num), ls 64 s] := ⟨_, rfl⟩
  have HL := hid hL
  have HN := hid (show L.length ≤ 90000 by rw [hL, rowB2_length]; omega)
  have HL256 := hid (show B256 L by rw [hL]; exact rowB2_256 (by omega) (BytM.dig_256 _ _) (ls_256 HS.out))
  clear hL
  obtain ⟨F, hF⟩ : ∃ F, F = HmM.tag (HmM.dl k) L := ⟨_, rfl⟩
  have HF := hid hF
  clear hF
  rw [← HL.out, ← HF.out]
  go_enter Tryd.func27, Tryd.ntmps27
  go_upto_region 1 with (with_reducible apply alA tT)
  rw [show ((w.alloc (.cells (ar 32 k) 23)).alloc (.cells (ar 64 s) 50)).heap.size = w.heap.size + 2 by simp]
  generalize hw1 : World.alloc (World.alloc (World.alloc w _) _) _ = w1
  have z0 := hid (show Blk w1 w.heap.size 23 (ar 32 k) by rw [← hw1]; exact ((Blk.new _ _ _).alloc _).alloc _)
  have z1 := hid (show Blk w1 (w.heap.size + 1) 50 (ar 64 s) by rw [← hw1]; exact (Blk.top rfl (by simp)).alloc _)
  have z2 := hid (show Blk w1 (w.heap.size + 2) 36 (ar 32 fun _ => 0) by rw [← hw1]; exact Blk.top rfl (by simp))
  have hb := hid (show Below w.heap.size w w1 by rw [← hw1]; exact (((Below.refl _ _).alloc (Nat.le_refl _) _).alloc (by simp) _).alloc (by simp; omega) _)
  have sa := hid (SA.out.on hb.out)
  clear hw1 SA
  refine wp_region_eS [some (.agg (ar 32 k)), some (.int .i64 num), some (.agg (ar 64 s)), none, some (.agg (ar 32 F))] [(3, L)] 5 (by kernel_rfl) (by kernel_rfl) (by kernel_rfl) fun vs => ?_
  simp only [List.take_succ_cons, List.take_zero, List.drop_succ_cons, List.drop_zero]
  refine ⟨.inl ⟨rfl, fun dd w' hd hC hDs => ?_⟩, fun e => ?_⟩
  · exact gE_ldA tK rfl ((z0.out.below hC z0.out.lt).head) ⟨rfl, hC, Below.refl _ _, eD_none rfl⟩
  have e' : vs 0 = _ := e
  rw [e']
  clear e e'
  simp only [Act.put, List.setIfInBounds_toArray, List.set_cons_succ, List.set_cons_zero]
  refine ⟨.inl ⟨rfl, fun dd w' hd hC hDs => ?_⟩, fun e => ?_⟩
  · go_simp
    first | exact ⟨rfl, hC, Below.refl _ _, eD_none rfl⟩ | exact ⟨rfl, Below.refl _ _, eD_none rfl⟩ | exact ⟨hC, Below.refl _ _, eD_none rfl⟩
  have e' : vs 1 = _ := e
  rw [e']
  clear e e'
  simp only [Act.put, List.setIfInBounds_toArray, List.set_cons_succ, List.set_cons_zero]
  refine ⟨.inl ⟨rfl, fun dd w' hd hC hDs => ?_⟩, fun e => ?_⟩
  · exact gE_ldA tS rfl ((z1.out.below hC z1.out.lt).head) ⟨rfl, hC, Below.refl _ _, eD_none rfl⟩
  have e' : vs 2 = _ := e
  rw [e']
  clear e e'
  simp only [Act.put, List.setIfInBounds_toArray, List.set_cons_succ, List.set_cons_zero]
  refine ⟨.inl ⟨rfl, fun dd w' hd hC hDs => ?_⟩, fun e => ?_⟩
  · go_simp
    refine ((by have := nodetext_any num HU.out s HS.out w'; unfold numT at this; rwa [← HL.out] at this : Calls _ _ _ _ _)).mono ?_
    rintro e w2 ⟨v, rfl, o2, h2⟩
    have hbs : B256 _ := HL256.out
    exact ⟨_, rfl, own_sl o2 hbs, hC.trans (h2.mono hC.size), h2, own_eD rfl o2 hbs⟩
  obtain ⟨A3, c3, e'⟩ : ∃ (A : Option Addr) (c : Nat), vs 3 = .slice A _ c := e
  rw [e']
  have E3 := hid e'
  clear e'
  simp only [Act.put, List.setIfInBounds_toArray, List.set_cons_succ, List.set_cons_zero]
  refine ⟨.inl ⟨rfl, fun dd w' hd hC hDs => ?_⟩, fun e => ?_⟩
  · obtain ⟨B3, k3, f3, a3⟩ := hDs 3 (by kernel_rfl) L rfl
    rw [E3.out] at f3
    cases f3
    go_simp
    have ht := of_any k HK.out A3 L _ _ HN.out w' a3 (sa.out.on hC)
    rw [← HF.out] at ht
    refine ht.mono ?_
    rintro e w2 ⟨rfl, h2⟩
    exact ⟨_, rfl, rfl, hC.trans (h2.mono hC.size), h2, eD_none rfl⟩
  have e' : vs 4 = _ := e
  rw [e']
  clear e e'
  simp only [Act.put, List.setIfInBounds_toArray, List.set_cons_succ, List.set_cons_zero]
  intro dd w4 hall hC4 hDs
  have d2 := z2.out.below hC4 z2.out.lt
  have db := hid (hb.out.trans (hC4.mono hb.out.size))
  clear hall hC4 hDs E3 z0 z1 z2 hb
  go_wp2_with ((with_reducible apply stA tT); rfl; rfl; exact d2)
  apply ret_ar tT Tryd.results27
  · rfl
  · rfl
  · exact d2.setRow_same _
  exact ⟨rfl, below_setRow db.out (by omega) _⟩
end TgP
end Go.Proofs.YtdmnhpgafbcehaaDoor
set_option maxRecDepth 100000
namespace Go.Proofs.YtdmnhpgafbcehaaDoor
open Go.ChangeShapes Go.WideShapes Go.ChangeAt Go.RowKit
attribute [local go_sem] Gives GivesE
namespace TrM
open TgP RwP
/-- The program's tree as a row of cells. -/
def ptR (k : Nat → Nat) (v : Value) : Array Value := row 33 fun j => if j < 32 then .int .u8 (k j : Nat) else v
section
variable {w : World} {g : Nat} {t : TypeId} {k : Nat → Nat} {v : Value}
theorem ptR_key (hb : Blk w g t (ptR k v)) : w.rangeAt g 0 (ar 32 k).toList := fun j u hu => by
  obtain ⟨hj, rfl⟩ := ar_list_get hu
  rw [hb.cell, Nat.zero_add]
  unfold ptR
  rw [get_row_lt (by omega), if_pos hj]
theorem ptR_v (hb : Blk w g t (ptR k v)) : w.cell? ⟨g, 32, none⟩ = some v := by
  rw [hb.cell]; unfold ptR; rw [get_row_lt (by omega)]; rfl
end
/-- The program's tree: a key and so many tags. -/
structure PT (w : World) (g gl cl : Nat) (k : Nat → Nat) (N : Nat) (F : Nat → Nat → Nat) : Prop where
  blk : Blk w g 73 (ptR k (.slice (some ⟨gl, 0, none⟩) N cl))
  own : OwnF 36 32 w 0 (.slice (some ⟨gl, 0, none⟩) N cl) N F
  k256 : ∀ i, k i < 256
  F256 : ∀ i j, F i j < 256
section
variable {w w' : World} {g gl cl N : Nat} {k : Nat → Nat} {F : Nat → Nat → Nat}
theorem PT.turn {S : Nat → Prop} (H : PT w g gl cl k N F) (ht : Turn S w w') (hg : ¬ S g) (hl : ¬ S gl) : PT w' g gl cl k N F :=
  ⟨H.blk.turn ht hg, H.own.turn ht fun b e => by cases e; exact hl, H.k256, H.F256⟩
theorem PT.lt (H : PT w g gl cl k N F) : g < w.heap.size ∧ gl < w.heap.size := ⟨H.blk.lt, H.own.lt.1⟩
theorem PT.below (H : PT w g gl cl k N F) (hb : Below w.heap.size w w') : PT w' g gl cl k N F :=
  H.turn (Turn.of_below hb) (by have := H.lt.1; omega) (by have := H.lt.2; omega)
theorem PT.ne (H : PT w g gl cl k N F) : g ≠ gl := fun e => by
  obtain ⟨cur, h1, _⟩ := OwnF.obj H.own
  have h2 := H.blk
  unfold Blk at h2
  rw [e, h1] at h2
  simp at h2
theorem PT.c (H : PT w g gl cl k N F) : w.cell? ⟨g, 32, none⟩ = some (.slice (some ⟨gl, 0, none⟩) N cl) := ptR_v H.blk
theorem PT.ext {F' : Nat → Nat → Nat} (H : PT w g gl cl k N F) (h : ∀ i j, i < N → j < 32 → F i j = F' i j) (hF : ∀ i j, F' i j < 256) : PT w g gl cl k N F' := ⟨H.blk, H.own.ext h, H.k256, hF⟩
end
/-- The landed tree as a representation. -/
def repL : RepT := fun w g M t => ∃ gl cl, PT w g gl cl t.k (2 * t.n) (tagsFrom t 1) ∧ 1 ≤ t.h ∧ t.h ≤ 12 ∧ ((∀ i j, t.L i j < 256) ∧ tabs < gl) ∧ M = fun b => b = g ∨ b = gl
theorem tg256 {t : Tr} (h : ∀ i j, t.L i j < 256) (q i : Nat) : t.tg q i < 256 := tgF_256 (k := t.k) (n := t.n) h t.h q i
theorem tagsFrom256 {t : Tr} (h : ∀ i j, t.L i j < 256) (q i j : Nat) : tagsFrom t q i j < 256 := by
  unfold tagsFrom
  split
  · exact tg256 h _ _
  · show 0 < 256; omega
theorem repL_lt {w : World} {g : Nat} {M : Nat → Prop} {t : Tr} (h : repL w g M t) : g < w.heap.size ∧ ∀ b, M b → b < w.heap.size := by
  obtain ⟨gl, cl, H, _, _, _, rfl⟩ := h
  exact ⟨H.lt.1, fun b hb => hb.elim (fun e => e ▸ H.lt.1) fun e => e ▸ H.lt.2⟩
theorem repL_keep {w w' : World} {g : Nat} {M : Nat → Prop} {t : Tr} {S : Nat → Prop} (h : repL w g M t) (ht : Turn S w w') (hM : ∀ b, M b → ¬ S b) : repL w' g M t := by
  obtain ⟨gl, cl, H, h1, h2, h3, rfl⟩ := h
  exact ⟨gl, cl, H.turn ht (hM g (.inl rfl)) (hM gl (.inr rfl)), h1, h2, h3, rfl⟩
theorem repL_wf {w : World} {g : Nat} {M : Nat → Prop} {t : Tr} (h : repL w g M t) : 1 ≤ t.h ∧ t.h ≤ 12 ∧ (∀ i, t.k i < 256) ∧ ∀ i j, t.L i j < 256 := by
  obtain ⟨gl, cl, H, h1, h2, h3, rfl⟩ := h
  exact ⟨h1, h2, H.k256, h3.1⟩
theorem Salts.at {w w' : World} {gl : Nat} (h : Salts w) (ht : Turn (fun b => b = gl) w w') (hg : tabs < gl) : Salts w' :=
  h.below (ht.below (B := tabs + 1) h.1 fun k e => by omega) (Nat.lt_succ_self _)
/-! ### Heights and leaves -/
set_option maxHeartbeats 400000 in
theorem ish_any (h : Int) (w : World) : Calls Tryd.prog 29 #[.int .i64 h] w fun e w' => e = .returned (.bool (decide (1 ≤ h ∧ h ≤ 12))) ∧ w = w' := by
  by_cases h1 : 1 ≤ h
  · by_cases h2 : h ≤ 12
    · rw [decide_eq_true ⟨h1, h2⟩]
      have t1 : decide (1 ≤ h) = true := decide_eq_true h1
      have t2 : decide (h ≤ 12) = true := decide_eq_true h2
      go_enter Tryd.func29, Tryd.ntmps29
      go_wp2_with fail
      go_ret
      exact ⟨rfl, rfl⟩
    · rw [decide_eq_false (by omega)]
      have t1 : decide (1 ≤ h) = true := decide_eq_true h1
      have t2 : decide (h ≤ 12) = false := decide_eq_false h2
      go_enter Tryd.func29, Tryd.ntmps29
      go_wp2_with fail
      go_ret
      exact ⟨rfl, rfl⟩
  · rw [decide_eq_false (by omega)]
    have t1 : decide (1 ≤ h) = false := decide_eq_false h1
    go_enter Tryd.func29, Tryd.ntmps29
    go_wp2_with fail
    go_ret
    exact ⟨rfl, rfl⟩
theorem shl_12 {h X : Nat} (hh : h ≤ 12) (e : X = 2 ^ h) : wrap64 (2 ^ h) = (X : Int) := by
  subst e
  rcases (show h = 0 ∨ h = 1 ∨ h = 2 ∨ h = 3 ∨ h = 4 ∨ h = 5 ∨ h = 6 ∨ h = 7 ∨ h = 8 ∨ h = 9 ∨ h = 10 ∨ h = 11 ∨ h = 12 by omega) with rfl | rfl | rfl | rfl | rfl | rfl | rfl | rfl | rfl | rfl | rfl | rfl | rfl <;> decide +kernel
set_option maxHeartbeats 400000 in
theorem lvs_any (h : Nat) (hh : h ≤ 12) (w : World) : Calls Tryd.prog 30 #[.int .i64 (h : Nat)] w fun e w' => e = .returned (.int .i64 ((2 ^ h : Nat) : Int)) ∧ w = w' := by
  obtain ⟨X, hX⟩ : ∃ X, X = 2 ^ h := ⟨_, rfl⟩
  have HX := shl_12 hh hX
  have hp := pow_le hh
  rw [← hX] at hp ⊢
  clear hX
  go_enter Tryd.func30, Tryd.ntmps30
  go_wp2_with fail
  rw [HX]
  go_ret
  exact ⟨rfl, rfl⟩
set_option maxHeartbeats 400000 in
theorem isl_any (h leaf : Int) (w : World) : Calls Tryd.prog 38 #[.int .i64 h, .int .i64 leaf] w fun e w' => e = .returned (.bool (decide (pathOk h leaf))) ∧ w = w' := by
  by_cases hh : 1 ≤ h ∧ h ≤ 12
  · have I := hid (fun w => ish_any h w)
    rw [decide_eq_true hh] at I
    obtain ⟨q, rfl⟩ : ∃ q : Nat, h = q := ⟨h.toNat, by omega⟩
    by_cases h0 : 0 ≤ leaf
    · have L := hid (fun w => lvs_any q (by omega) w)
      have t1 : decide (0 ≤ leaf) = true := decide_eq_true h0
      have hr : decide (pathOk (q : Nat) leaf) = decide (leaf < ((2 ^ q : Nat) : Int)) := by
        rw [decide_eq_decide]
        unfold pathOk okH
        rw [Int.toNat_natCast]
        constructor
        · exact fun h => h.2.2
        · exact fun h => ⟨hh, h0, h⟩
      rw [hr]
      obtain ⟨X, hX⟩ : ∃ X, X = 2 ^ q := ⟨_, rfl⟩
      rw [← hX] at L ⊢
      clear hX hr hh
      obtain ⟨b, hb⟩ : ∃ b, b = decide (leaf < (X : Int)) := ⟨_, rfl⟩
      have B := hid hb
      rw [← hb]
      clear hb
      go_enter Tryd.func38, Tryd.ntmps38
      go_wp2_with fail
      refine (I.out w).mono ?_
      rintro e w' ⟨rfl, rfl⟩
      go_wp2_with fail
      refine (L.out w).mono ?_
      rintro e w' ⟨rfl, rfl⟩
      go_wp2_with fail
      go_ret
      exact ⟨by rw [B.out]; rfl, rfl⟩
    · have t1 : decide (0 ≤ leaf) = false := decide_eq_false h0
      rw [decide_eq_false (show ¬ pathOk (q : Nat) leaf from fun h => h0 h.2.1)]
      clear hh
      go_enter Tryd.func38, Tryd.ntmps38
      go_wp2_with fail
      refine (I.out w).mono ?_
      rintro e w' ⟨rfl, rfl⟩
      go_wp2_with fail
      go_ret
      exact ⟨rfl, rfl⟩
  · have I := hid (fun w => ish_any h w)
    rw [decide_eq_false hh] at I
    rw [decide_eq_false (show ¬ pathOk h leaf from fun h => hh h.1)]
    clear hh
    go_enter Tryd.func38, Tryd.ntmps38
    go_wp2_with fail
    refine (I.out w).mono ?_
    rintro e w' ⟨rfl, rfl⟩
    go_wp2_with fail
    go_ret
    exact ⟨rfl, rfl⟩
/-! ### How many leaves a tree has; find -/
theorem half_n {N n : Nat} (h : N = 2 * n) : (N : Int).tdiv 2 = (n : Int) := by
  subst h
  rw [Int.tdiv_eq_ediv_of_nonneg (by omega)]
  omega
/-- A tree that tells its leaves: one that New made, none, or a block of zeros. -/
def Lv (v : Value) (n : Nat) (w : World) : Prop := ∀ w', Below w.heap.size w w' → Calls Tryd.prog 34 #[v] w' fun e w'' => e = .returned (.int .i64 (n : Nat)) ∧ w' = w''
set_option maxHeartbeats 400000 in
theorem leaves_any {w : World} {g gl cl N n : Nat} {k : Nat → Nat} {F : Nat → Nat → Nat} (H : PT w g gl cl k N F) (hN : N = 2 * n) (hn : n ≤ 4096) : Calls Tryd.prog 34 #[.pointer (some ⟨g, 0, none⟩)] w fun e w' => e = .returned (.int .i64 (n : Nat)) ∧ w = w' := by
  have c1 := H.c
  have t1 := half_n hN
  have hN8 : N ≤ 8192 := by omega
  clear H hN
  go_enter Tryd.func34, Tryd.ntmps34
  go_wp2_with fail
  go_ret
  exact ⟨rfl, rfl⟩
theorem PT.lv {w : World} {g gl cl N n : Nat} {k : Nat → Nat} {F : Nat → Nat → Nat} (H : PT w g gl cl k N F) (hN : N = 2 * n) (hn : n ≤ 4096) : Lv (.pointer (some ⟨g, 0, none⟩)) n w := fun w' hb => leaves_any (H.below hb) hN hn
set_option maxHeartbeats 400000 in
theorem lv_none (w : World) : Lv (.pointer none) 0 w := fun w' _ => by
  go_enter Tryd.func34, Tryd.ntmps34
  go_wp2_with fail
  go_ret
  exact ⟨rfl, rfl⟩
set_option maxHeartbeats 400000 in
theorem lv_zero {w : World} {g : Nat} (H : Blk w g 73 (ptR (fun _ => 0) (.slice none 0 0))) : Lv (.pointer (some ⟨g, 0, none⟩)) 0 w := fun w' hb => by
  have c1 := ptR_v (H.below hb H.lt)
  clear H hb
  go_enter Tryd.func34, Tryd.ntmps34
  go_wp2_with fail
  go_ret
  exact ⟨rfl, rfl⟩
def findV (n : Nat) (j a b : Int) : Int := if n = 0 then 1 else if j < a ∨ b ≤ j then 2 else 0
set_option maxHeartbeats 400000 in
theorem find_any {v : Value} {n : Nat} {w : World} (hv : ∃ p, v = .pointer p) (H : Lv v n w) (j a b : Int) : Calls Tryd.prog 33 #[v, .int .i64 j, .int .i64 a, .int .i64 b] w fun e w' => e = .returned (.int .i64 (findV n j a b)) ∧ w = w' := by
  obtain ⟨p, rfl⟩ := hv
  have L := hid (H w (Below.refl _ _))
  clear H
  unfold findV
  by_cases h0 : n = 0
  · rw [if_pos h0]
    subst h0
    go_enter Tryd.func33, Tryd.ntmps33
    go_wp2_with fail
    refine (L.out).mono ?_
    rintro e w' ⟨rfl, rfl⟩
    go_wp2_with fail
    go_ret
    exact ⟨rfl, rfl⟩
  · rw [if_neg h0]
    have t0 : (((n : Nat) : Int) == 0) = false := by rw [beq_eq_false_iff_ne]; omega
    have t00 : (n == 0) = false := by rw [beq_eq_false_iff_ne]; omega
    by_cases h1 : j < a
    · rw [if_pos (.inl h1)]
      have t1 : decide (j < a) = true := decide_eq_true h1
      clear h0
      go_enter Tryd.func33, Tryd.ntmps33
      go_wp2_with fail
      refine (L.out).mono ?_
      rintro e w' ⟨rfl, rfl⟩
      go_wp2_with fail
      go_ret
      exact ⟨rfl, rfl⟩
    · by_cases h2 : b ≤ j
      · rw [if_pos (.inr h2)]
        have t1 : decide (j < a) = false := decide_eq_false h1
        have t2 : decide (b ≤ j) = true := decide_eq_true h2
        clear h0
        go_enter Tryd.func33, Tryd.ntmps33
        go_wp2_with fail
        refine (L.out).mono ?_
        rintro e w' ⟨rfl, rfl⟩
        go_wp2_with fail
        go_ret
        exact ⟨rfl, rfl⟩
      · rw [if_neg (by omega)]
        have t1 : decide (j < a) = false := decide_eq_false h1
        have t2 : decide (b ≤ j) = false := decide_eq_false h2
        clear h0
        go_enter Tryd.func33, Tryd.ntmps33
        go_wp2_with fail
        refine (L.out).mono ?_
        rintro e w' ⟨rfl, rfl⟩
        go_wp2_with fail
        go_ret
        exact ⟨rfl, rfl⟩
/-! ### A node's sector -/
set_option maxHeartbeats 800000 in
set_option maxRecDepth 100000 in
theorem sector_any {w : World} {g gl cl N : Nat} {k : Nat → Nat} {F : Nat → Nat → Nat} (H : PT w g gl cl k N F) (hN : N ≤ 8192) (j : Nat) (hj : 2 * j + 1 < N) : Calls Tryd.prog 31 #[.pointer (some ⟨g, 0, none⟩), .int .i64 (j : Nat)] w fun e w' => e = .returned (.agg (ar 64 (joined (F (2 * j)) (F (2 * j + 1))))) ∧ Below w.heap.size w w' := by
  have HH := hid H
  have hz : Blk (w.alloc (.cells (ar 64 fun _ => 0) 50)) w.heap.size 50 (ar 64 fun _ => 0) := Blk.new _ _ _
  have hbz := hid (show Below w.heap.size w (w.alloc (.cells (ar 64 fun _ => 0) 50)) from (Below.refl _ _).alloc (Nat.le_refl _) _)
  have hh := hid (HH.out.below hbz.out)
  clear H
  obtain ⟨J2, hJ2⟩ : ∃ J, J = 2 * j := ⟨_, rfl⟩
  obtain ⟨J3, hJ3⟩ : ∃ J, J = 2 * j + 1 := ⟨_, rfl⟩
  rw [← hJ3, ← hJ2]
  have q2 := hid (show IntKind.i64.wrap (2 * (j : Int)) = (J2 : Int) from wr_nat (by omega) (by omega))
  have q3 := hid (show IntKind.i64.wrap ((J2 : Int) + 1) = (J3 : Int) from wr_nat (by omega) (by omega))
  have l2 : J2 < N := by omega
  have l3 : J3 < N := by omega
  obtain ⟨f1, hf1⟩ : ∃ f, f = F J2 := ⟨_, rfl⟩
  obtain ⟨f2, hf2⟩ : ∃ f, f = F J3 := ⟨_, rfl⟩
  rw [← hf1, ← hf2]
  have E1 := hid hf1
  have E2 := hid hf2
  clear hj hJ2 hJ3 hf1 hf2
  go_enter Tryd.func31, Tryd.ntmps31
  go_upto_region 1 with (with_reducible apply alA tS)
  generalize World.alloc w _ = w1 at hz hbz hh ⊢
  have hzl := hz.lt
  have HZ := hid hz
  clear hz
  have r2 := hid (OwnF.range hh.out.own (i := J2) l2)
  have r3 := hid (OwnF.range hh.out.own (i := J3) l3)
  rw [← E1.out] at r2
  rw [← E2.out] at r3
  clear E1 E2
  have hgn := hh.out.lt.2
  have hg1 := hh.out.lt.1
  have c1 := hid hh.out.c
  refine wp_region_tail (C := fun w' => Below w1.heap.size w1 w') 18 (by kernel_rfl) (by kernel_rfl) (by kernel_rfl) (Below.refl _ _).drew ?_
  simp only [List.take_succ_cons, List.take_zero, List.drop_succ_cons, List.drop_zero]
  apply wpK_val
  · rfl
  · intro w' hw'
    go_simp
    first | exact rfl | exact ⟨rfl, hw'⟩
  simp only [Act.put, List.setIfInBounds_toArray, List.set_cons_succ, List.set_cons_zero]
  apply wpK_val
  · rfl
  · intro w' hw'
    go_simp
    first | exact rfl | exact ⟨rfl, hw'⟩
  simp only [Act.put, List.setIfInBounds_toArray, List.set_cons_succ, List.set_cons_zero]
  apply wpK_val
  · rfl
  · intro w' hw'
    go_simp
    first | exact rfl | exact ⟨rfl, hw'⟩
  simp only [Act.put, List.setIfInBounds_toArray, List.set_cons_succ, List.set_cons_zero]
  apply wpK_val
  · rfl
  · intro w' hw'
    have hcell := (hw'.cell (p := ⟨g, 32, none⟩) hg1).trans c1.out
    go_simp
    first | exact rfl | exact ⟨rfl, hw'⟩
  simp only [Act.put, List.setIfInBounds_toArray, List.set_cons_succ, List.set_cons_zero]
  apply wpK_val
  · rfl
  · intro w' hw'
    go_simp
    first | exact rfl | exact ⟨rfl, hw'⟩
  simp only [Act.put, List.setIfInBounds_toArray, List.set_cons_succ, List.set_cons_zero]
  apply wpK_val
  · rfl
  · intro w' hw'
    have q2 : _ := q2.out
    go_simp
    first | exact rfl | exact ⟨rfl, hw'⟩
  simp only [Act.put, List.setIfInBounds_toArray, List.set_cons_succ, List.set_cons_zero]
  apply wpK_val
  · rfl
  · intro w' hw'
    have l2 : J2 < N := l2
    go_simp
    first | exact rfl | exact ⟨rfl, hw'⟩
  simp only [Act.put, List.setIfInBounds_toArray, List.set_cons_succ, List.set_cons_zero]
  apply kldA tT
  · rfl
  · rfl
  · exact fun w' hw' => fun q v hq => (hw'.cell (p := ⟨gl, J2 * 32 + q, none⟩) hgn).trans (r2.out q v hq)
  simp only [Act.put, List.setIfInBounds_toArray, List.set_cons_succ, List.set_cons_zero]
  apply wpK_val
  · rfl
  · intro w' hw'
    go_simp
    first | exact rfl | exact ⟨rfl, hw'⟩
  simp only [Act.put, List.setIfInBounds_toArray, List.set_cons_succ, List.set_cons_zero]
  apply wpK_val
  · rfl
  · intro w' hw'
    go_simp
    first | exact rfl | exact ⟨rfl, hw'⟩
  simp only [Act.put, List.setIfInBounds_toArray, List.set_cons_succ, List.set_cons_zero]
  apply wpK_val
  · rfl
  · intro w' hw'
    go_simp
    first | exact rfl | exact ⟨rfl, hw'⟩
  simp only [Act.put, List.setIfInBounds_toArray, List.set_cons_succ, List.set_cons_zero]
  apply wpK_val
  · rfl
  · intro w' hw'
    have hcell := (hw'.cell (p := ⟨g, 32, none⟩) hg1).trans c1.out
    go_simp
    first | exact rfl | exact ⟨rfl, hw'⟩
  simp only [Act.put, List.setIfInBounds_toArray, List.set_cons_succ, List.set_cons_zero]
  apply wpK_val
  · rfl
  · intro w' hw'
    go_simp
    first | exact rfl | exact ⟨rfl, hw'⟩
  simp only [Act.put, List.setIfInBounds_toArray, List.set_cons_succ, List.set_cons_zero]
  apply wpK_val
  · rfl
  · intro w' hw'
    have q2 : _ := q2.out
    go_simp
    first | exact rfl | exact ⟨rfl, hw'⟩
  simp only [Act.put, List.setIfInBounds_toArray, List.set_cons_succ, List.set_cons_zero]
  apply wpK_val
  · rfl
  · intro w' hw'
    have q3 : _ := q3.out
    go_simp
    first | exact rfl | exact ⟨rfl, hw'⟩
  simp only [Act.put, List.setIfInBounds_toArray, List.set_cons_succ, List.set_cons_zero]
  apply wpK_val
  · rfl
  · intro w' hw'
    have l3 : J3 < N := l3
    go_simp
    first | exact rfl | exact ⟨rfl, hw'⟩
  simp only [Act.put, List.setIfInBounds_toArray, List.set_cons_succ, List.set_cons_zero]
  apply kldA tT
  · rfl
  · rfl
  · exact fun w' hw' => fun q v hq => (hw'.cell (p := ⟨gl, J3 * 32 + q, none⟩) hgn).trans (r3.out q v hq)
  simp only [Act.put, List.setIfInBounds_toArray, List.set_cons_succ, List.set_cons_zero]
  apply wpK_val
  · rfl
  · intro w' hw'
    go_simp
    exact (join_any f1 f2 w').mono fun e w5 h => ⟨h.1, hw'.trans (h.2.mono hw'.size)⟩
  simp only [Act.put, List.setIfInBounds_toArray, List.set_cons_succ, List.set_cons_zero]
  refine wpK_nil fun w4 h4 => ?_
  have z4 := HZ.out.below h4 hzl
  have B4 := hid (hbz.out.trans (h4.mono hbz.out.size))
  clear h4 r2 r3 c1 hh HZ
  go_wp2_with ((with_reducible apply stA tS); rfl; rfl; exact z4)
  apply ret_ar tS Tryd.results31
  · rfl
  · rfl
  · exact z4.setRow_same _
  exact ⟨rfl, below_setRow B4.out (Nat.le_refl _) _⟩
end TrM
end Go.Proofs.YtdmnhpgafbcehaaDoor
set_option maxRecDepth 100000
namespace Go.Proofs.YtdmnhpgafbcehaaDoor
open Go.ChangeShapes Go.WideShapes Go.ChangeAt Go.RowKit
attribute [local go_sem] Gives GivesE
namespace RwP
/-- G's first q rows laid over F from m on. -/
def cpF (m q : Nat) (F G : Nat → Nat → Nat) (i : Nat) : Nat → Nat := if m ≤ i ∧ i < m + q then G (i - m) else F i
section
variable {E : TypeId} {K B n cap g i m q c' : Nat} {F G : Nat → Nat → Nat} {w w' : World} {v : Value} {f : Nat → Nat} {S : Nat → Prop} {A : Option Addr} {dT sT ty : TypeId}
theorem flat_split {j : Nat} (hK : 0 < K) (hj : j < q * K) : j / K < q ∧ j % K < K ∧ j / K * K + j % K = j :=
  ⟨Nat.div_lt_of_lt_mul (by rw [Nat.mul_comm]; exact hj), Nat.mod_lt _ hK, by rw [Nat.mul_comm]; exact Nat.div_add_mod j K⟩
theorem run_cpF (hE : EltX E K (arL K)) (hu : Tryd.prog.underlying dT = some (.slice E)) (h : OwnF E K w B (.slice (some ⟨g, 0, none⟩) n cap) n F) (hs : SliF K S w A q G c') (hfit : m + q ≤ n) (dLen dCap : Nat) (hq : q ≤ dLen) :
    ∃ w', (Builtin.copy_ #[dT, sT] ty #[.slice (some ⟨g, m * K, none⟩) dLen dCap, .slice A q c']).run Tryd.prog w = .ok (goInt q) w' ∧ OwnF E K w' B (.slice (some ⟨g, 0, none⟩) n cap) n (cpF m q F G) ∧ Turn (fun b => b = g) w w' := by
  obtain ⟨ie, z, hi, hz, h1, h2, h3⟩ := hE.info
  have hK := hE.pos
  have hl : ((lsF q G).flatMap (arL K)).length = q * K := by rw [flat_len (arL_len K), lsF_len]
  obtain ⟨cur, g1, g2, g3, g4⟩ := h.obj
  have hmq : m * K + q * K ≤ cap * K := by rw [← Nat.add_mul]; exact Nat.mul_le_mul_right K (by omega)
  have hth : w.there g (m * K) (q * K) := there_of g1 (by omega)
  refine ⟨w.setCells g (m * K) ((lsF q G).flatMap (arL K)), ?_, ?_, turn_setCells _ _ _⟩
  · rcases Nat.eq_zero_or_pos q with rfl | hqp
    · have e0 : (lsF 0 G).flatMap (arL K) = [] := List.eq_nil_of_length_eq_zero (by rw [hl, Nat.zero_mul])
      rw [e0]
      cases A with
      | none => simp [Builtin.copy_, run_underlying hu, Builtin.lenOf, Builtin.firstCells, sizeOf, typeInfo, hi, h1, storeCells, Result.andThen, World.setCells]
      | some a => simp [Builtin.copy_, run_underlying hu, Builtin.lenOf, Builtin.firstCells, sizeOf, typeInfo, hi, h1, loadCells, loadCellsFrom, storeCells, Result.andThen, World.setCells]
    · obtain ⟨b, o, rfl, _, _, _⟩ := hs.some (lsF_get hqp)
      have hsrc : ∀ j u, ((lsF q G).flatMap (arL K))[j]? = some u → w.cell? ((⟨b, o, none⟩ : Addr).add j) = some u := fun j u hj => by
        have hj2 : j < q * K := by rw [← hl]; exact (List.getElem?_eq_some_iff.1 hj).1
        obtain ⟨p1, p2, p3⟩ := flat_split hK hj2
        obtain ⟨b2, o2, e2, _, _, hr⟩ := hs.some (lsF_get p1)
        cases e2
        rw [← p3, flat_at (arL_len K) (lsF q G) (j / K) (j % K) _ (lsF_get p1) p2] at hj
        have := hr _ _ hj
        rw [Addr.add_mid, ← p3]
        rwa [Nat.add_assoc] at this
      have hld := run_loadCells_list (P := Tryd.prog) w ⟨b, o, none⟩ ((lsF q G).flatMap (arL K)) hsrc
      rw [hl] at hld
      have hst := run_storeCells_cells (P := Tryd.prog) g (m * K) ((lsF q G).flatMap (arL K)) 0 w (fun j hj => by rw [Nat.add_zero]; exact (hth j (by rw [hl] at hj; exact hj)).1) (fun j hj => by rw [Nat.add_zero]; exact (hth j (by rw [hl] at hj; exact hj)).2)
        (fun u hu' => by
          obtain ⟨x, _, hx⟩ := List.mem_flatMap.1 hu'
          exact ar_one' x u hx)
      simp only [Nat.add_zero] at hst
      have hmin : Nat.min q dLen = q := Nat.min_eq_left hq
      simp [Builtin.copy_, run_underlying hu, Builtin.lenOf, Builtin.firstCells, sizeOf, typeInfo, hi, h1, hmin, hld, hst, Result.andThen]
  · obtain ⟨cur', q1, q2⟩ := cells_setCells ((lsF q G).flatMap (arL K)) (m * K) w ⟨cur, g1, g2⟩
    have ho : OwnX E K (arL K) (w.setCells g (m * K) ((lsF q G).flatMap (arL K))) 0 (.slice (some ⟨g, 0, none⟩) (lsF n (cpF m q F G)).length cap) (lsF n (cpF m q F G)) := by
      refine own_of_ranges (arL_len K) hK q1 q2 (by rw [lsF_len]; exact g3) g4 fun p x hx => ?_
      obtain ⟨hp, rfl⟩ := lsF_some hx
      unfold cpF
      by_cases e : m ≤ p ∧ p < m + q
      · rw [if_pos e]
        have hall := World.rangeAt_setCells_same w g (m * K) ((lsF q G).flatMap (arL K)) (by rw [hl]; exact hth)
        intro j u hj
        have hjK : j < K := by have := (List.getElem?_eq_some_iff.1 hj).1; rwa [arL_len] at this
        have hf := flat_at (arL_len K) (lsF q G) (p - m) j _ (lsF_get (show p - m < q by omega)) hjK
        rw [hj] at hf
        have := hall _ _ hf
        rwa [show m * K + ((p - m) * K + j) = p * K + j by rw [← Nat.add_assoc, ← Nat.add_mul, show m + (p - m) = p by omega]] at this
      · rw [if_neg e]
        refine World.rangeAt_setCells_apart (h.range hp) g (m * K) ((lsF q G).flatMap (arL K)) (.inr ?_)
        rw [arL_len, hl]
        rcases Nat.lt_or_ge p m with hlt | hge
        · left
          have := Nat.mul_le_mul_right K (show p + 1 ≤ m by omega)
          rw [Nat.add_mul] at this; omega
        · right
          have := Nat.mul_le_mul_right K (show m + q ≤ p by omega)
          rw [Nat.add_mul] at this; omega
    rw [lsF_len] at ho
    exact OwnX.raise ho fun b e => by cases e; exact h.lt.2
end
section
variable {ops : Array Oper} {Q : Exit → Act → World → Prop} {a : Act} {w : World} {rest : List Oper} {dst : Option Tmp} {ty E dT sT : TypeId} {pos : String} {after : Array Edge} {x y : Operand} {K B n m q cap c' g o dLen dCap : Nat} {F G : Nat → Nat → Nat} {S : Nat → Prop} {A : Option Addr}
theorem wcpF (hE : EltX E K (arL K)) (hu : Tryd.prog.underlying dT = some (.slice E)) (hx : a.eval x = .slice (some ⟨g, o, none⟩) dLen dCap) (hy : a.eval y = .slice A q c') (ho : o = m * K) (h : OwnF E K w B (.slice (some ⟨g, 0, none⟩) n cap) n F) (hs : SliF K S w A q G c') (hfit : m + q ≤ n) (hq : q ≤ dLen)
    (hk : ∀ w', OwnF E K w' B (.slice (some ⟨g, 0, none⟩) n cap) n (cpF m q F G) → Turn (fun b => b = g) w w' → wpList Tryd.prog ops Q rest (a.put dst (goInt q)) w') :
    wpList Tryd.prog ops Q (⟨dst, .call { callee := .builtin .copy, args := #[x, y], argTypes := #[dT, sT] }, ty, pos, after, none⟩ :: rest) a w := by
  subst ho
  obtain ⟨w', hr, h1, h2⟩ := run_cpF (ty := ty) (sT := sT) hE hu h hs hfit dLen dCap hq
  refine wpList_plain rfl fun K' hK => ?_
  unfold Oper.wp execOp
  simp only [resolve, invoke, builtin, Sem.run_bind, Sem.run_pure, Result.andThen_ok, List.map_toArray, List.map_cons, List.map_nil, hx, hy, hr]
  exact hK _ _ (hk w' h1 h2)
end
end RwP
end Go.Proofs.YtdmnhpgafbcehaaDoor
set_option maxRecDepth 100000
namespace Go.Proofs.YtdmnhpgafbcehaaDoor
open Go.ChangeShapes Go.WideShapes Go.ChangeAt Go.RowKit
attribute [local go_sem] Gives GivesE
namespace TrM
open TgP RwP
theorem built_pt (k : Nat → Nat) (g n m : Nat) : Tryd.prog.built 73 [(0, .agg (ar 32 k)), (1, .slice (some ⟨g, 0, none⟩) n m)] = some (ptR k (.slice (some ⟨g, 0, none⟩) n m)) := by kernel_rfl
theorem elemT : Tryd.prog.elem 24 = 36 := by kernel_rfl
set_option maxHeartbeats 800000 in
set_option maxRecDepth 100000 in
theorem new_no (k : Nat → Nat) (h : Int) (A : Option Addr) (m cap : Nat) (hb : h < 1 ∨ 12 < h ∨ (okH h ∧ 2 ^ h.toNat < m)) (w : World) :
    Calls Tryd.prog 10 #[.agg (ar 32 k), .int .i64 h, .slice A m cap] w fun e w' => e = .returned (.tuple #[.pointer none, .int .i64 2]) ∧ Below w.heap.size w w' := by
  by_cases hh : 1 ≤ h ∧ h ≤ 12
  · have hm : 2 ^ h.toNat < m := by
      rcases hb with hb | hb | hb
      · omega
      · omega
      · exact hb.2
    obtain ⟨q, rfl⟩ : ∃ q : Nat, h = q := ⟨h.toNat, by omega⟩
    have IS := hid fun w => ish_any (q : Nat) w
    rw [decide_eq_true hh] at IS
    have HP := hid fun w => lvs_any q (by omega) w
    rw [Int.toNat_natCast] at hm
    obtain ⟨X, hX⟩ : ∃ X, X = 2 ^ q := ⟨_, rfl⟩
    rw [← hX] at HP hm
    have t1 : (X : Int) < (m : Int) := by omega
    have t2 : decide (X < m) = true := decide_eq_true hm
    clear hb hX hh
    go_enter Tryd.func10, Tryd.ntmps10
    go_upto_region 1 with fail
    have hbz := hid (show Below w.heap.size w (w.alloc (.cells (ar 32 k) 23)) from (Below.refl _ _).alloc (Nat.le_refl _) _)
    generalize World.alloc w _ = w1 at hbz ⊢
    go_wp2_with fail
    refine (IS.out w1).mono ?_
    rintro e w' ⟨rfl, rfl⟩
    go_wp2_with fail
    refine (HP.out w1).mono ?_
    rintro e w' ⟨rfl, rfl⟩
    go_wp2_with fail
    go_ret2
    exact ⟨rfl, hbz.out⟩
  · have IS := hid fun w => ish_any h w
    rw [decide_eq_false hh] at IS
    clear hb hh
    go_enter Tryd.func10, Tryd.ntmps10
    go_upto_region 1 with fail
    have hbz := hid (show Below w.heap.size w (w.alloc (.cells (ar 32 k) 23)) from (Below.refl _ _).alloc (Nat.le_refl _) _)
    generalize World.alloc w _ = w1 at hbz ⊢
    go_wp2_with fail
    refine (IS.out w1).mono ?_
    rintro e w' ⟨rfl, rfl⟩
    go_wp2_with fail
    go_ret2
    exact ⟨rfl, hbz.out⟩
def spBp (k : Nat → Nat) (n B : Nat) : Sp := ⟨fun v => ∃ g : Nat, v = .agg (ptR k (.slice (some ⟨g, 0, none⟩) n n)), fun v w => ∃ g : Nat, v = .agg (ptR k (.slice (some ⟨g, 0, none⟩) n n)) ∧ OwnF 36 32 w B (.slice (some ⟨g, 0, none⟩) n n) n fun _ _ => 0, .agg (ptR k (.slice (some ⟨0, 0, none⟩) n n))⟩
theorem spBp_ok (k : Nat → Nat) (n B : Nat) : (spBp k n B).ok := ⟨⟨0, rfl⟩, fun v w1 w2 ⟨g, h1, h2⟩ hb => ⟨g, h1, h2.below hb (Nat.le_refl _)⟩⟩
def spBq (k : Nat → Nat) (n B : Nat) : Sp := ⟨fun v => ∃ b : Nat, v = .pointer (some ⟨b, 0, none⟩), fun v w => ∃ b g : Nat, v = .pointer (some ⟨b, 0, none⟩) ∧ B ≤ b ∧ Blk w b 73 (ptR k (.slice (some ⟨g, 0, none⟩) n n)) ∧ OwnF 36 32 w B (.slice (some ⟨g, 0, none⟩) n n) n fun _ _ => 0, .pointer (some ⟨0, 0, none⟩)⟩
theorem spBq_ok (k : Nat → Nat) (n B : Nat) : (spBq k n B).ok := ⟨⟨0, rfl⟩, fun v w1 w2 ⟨b, g, h1, h0, h2, h3⟩ hb => ⟨b, g, h1, h0, h2.below hb h2.lt, h3.below hb (Nat.le_refl _)⟩⟩
theorem newL256 {m : Nat} {F : Nat → Nat → Nat} (hF : ∀ i j, F i j < 256) (i j : Nat) : newL m F i j < 256 := by
  unfold newL
  split
  · exact hF _ _
  · show 0 < 256; omega
theorem cp_leaves {t : Tr} {m : Nat} {F : Nat → Nat → Nat} (hL : t.L = newL m F) (hm : m ≤ t.n) {q : Nat} (hq : q < 2 * t.n) : cpF t.n m (fun _ _ => 0) F q = tagsFrom t t.n q := by
  unfold cpF tagsFrom
  by_cases h : t.n ≤ q
  · rw [if_pos h, Tr.tg_leaf h, hL]
    unfold newL
    by_cases h2 : q - t.n < m
    · rw [if_pos ⟨h, by omega⟩, if_pos h2]
    · rw [if_neg (by omega), if_neg h2]
  · rw [if_neg h, if_neg (by omega)]
set_option maxHeartbeats 1600000 in
set_option maxRecDepth 100000 in
theorem new_yes (k : Nat → Nat) (hk : ∀ i, k i < 256) (h : Nat) (hh : okH h) (A : Option Addr) (F : Nat → Nat → Nat) (hF : ∀ i j, F i j < 256) (m cap : Nat) (hm : m ≤ 2 ^ h) (S : Nat → Prop) (w : World) (hA : SliF 32 S w A m F cap) (hS : Salts w) :
    Calls Tryd.prog 10 #[.agg (ar 32 k), .int .i64 (h : Nat), .slice A m cap] w fun e w' => ∃ (g : Nat) (M : Nat → Prop), e = .returned (.tuple #[pT g, .int .i64 0]) ∧ repL w' g M ⟨k, h, newL m F⟩ ∧ (∀ b, M b → w.heap.size ≤ b) ∧ Below w.heap.size w w' := by
  have h12 : h ≤ 12 := by have := hh.2; omega
  have h1 : 1 ≤ h := by have := hh.1; omega
  have IS := hid fun w => ish_any (h : Nat) w
  rw [decide_eq_true (show (1 : Int) ≤ ((h : Nat) : Int) ∧ ((h : Nat) : Int) ≤ 12 from ⟨by omega, by omega⟩)] at IS
  have HP := hid fun w => lvs_any h h12 w
  have HX := pow_le h12
  have hn2 : 2 ≤ 2 ^ h := Nat.pow_le_pow_right (n := 2) (by omega) h1
  have KK := hid hk
  have FF := hid (newL256 (m := m) hF)
  have HA := hid hA
  have SA := hid hS
  obtain ⟨t, ht⟩ : ∃ t : Tr, t = ⟨k, h, newL m F⟩ := ⟨_, rfl⟩
  rw [← ht]
  have Tk := hid (show t.k = k by rw [ht])
  have Th := hid (show t.h = h by rw [ht])
  have TL := hid (show t.L = newL m F by rw [ht])
  have Tn := hid (show t.n = 2 ^ h by rw [ht]; rfl)
  have T256 := hid (show ∀ i j, t.L i j < 256 by rw [TL.out]; exact FF.out)
  have CP := hid (fun q (hq : q < 2 * t.n) => cp_leaves TL.out (by rw [Tn.out]; exact hm) hq)
  rw [Tn.out] at CP
  obtain ⟨n, hn⟩ : ∃ n, n = 2 ^ h := ⟨_, rfl⟩
  rw [← hn] at HP HX hm hn2 CP Tn
  obtain ⟨N, hN⟩ : ∃ N, N = 2 * n := ⟨_, rfl⟩
  have NE := hid hN
  rw [← hN] at CP
  have hNn : n < N := by omega
  have hNm : n + m ≤ N := by omega
  have hN8 : N ≤ 8192 := by omega
  have hNa : N ≤ 2 * n := by omega
  have hNb : 2 * n ≤ N := by omega
  have wN := hid (show IntKind.i64.wrap ((n : Int) + (n : Int)) = (N : Int) by rw [show (n : Int) + (n : Int) = ((N : Nat) : Int) by omega]; exact IntWalk.i64_in _ (by omega))
  have t1 : ¬ (n : Int) < (m : Int) := by omega
  have t2 : decide (n < m) = false := decide_eq_false (by omega)
  have TG := hid fun q (h1 : 1 ≤ q) (h2 : q < n) => Tr.tg_node (t := t) h1 (by rw [Tn.out]; exact h2)
  rw [Tk.out] at TG
  clear hn hh hk hF hA hS ht hN
  go_enter Tryd.func10, Tryd.ntmps10
  go_upto_region 1 with fail
  have hbz := hid (show Below w.heap.size w (w.alloc (.cells (ar 32 k) 23)) from (Below.refl _ _).alloc (Nat.le_refl _) _)
  have z0 := hid (show Blk (w.alloc (.cells (ar 32 k) 23)) w.heap.size 23 (ar 32 k) from Blk.new _ _ _)
  generalize World.alloc w _ = w1 at hbz z0 ⊢
  go_wp2_with fail
  refine (IS.out w1).mono ?_
  rintro e w' ⟨rfl, rfl⟩
  go_wp2_with fail
  refine (HP.out w1).mono ?_
  rintro e w' ⟨rfl, rfl⟩
  go_wp2_with fail
  refine (HP.out w1).mono ?_
  rintro e w' ⟨rfl, rfl⟩
  go_upto_region 4 with fail
  clear t1 t2
  refine wp_region_y [some (.agg (ar 32 k)), some (.int .i64 n), some (.int .i64 n), some (.int .i64 N)] [(4, spMk N w1.heap.size), (5, spBp k N w1.heap.size), (6, spBq k N w1.heap.size)] (fun y hy => by simp only [List.mem_cons, List.not_mem_nil, or_false] at hy; rcases hy with rfl | rfl | rfl; exact spMk_ok _ _; exact spBp_ok _ _ _; exact spBq_ok _ _ _) 7 (by kernel_rfl) (by kernel_rfl) (by kernel_rfl) fun vs => ?_
  simp only [List.take_succ_cons, List.take_zero, List.drop_succ_cons, List.drop_zero]
  refine ⟨.inl ⟨rfl, fun dd w' hd hC hDs => ?_⟩, fun e => ?_⟩
  · exact gE_ldA tK rfl ((z0.out.below hC z0.out.lt).head) ⟨rfl, hC, Below.refl _ _, trivial⟩
  have e' : vs 0 = _ := e
  rw [e']
  clear e e'
  simp only [Act.put, List.setIfInBounds_toArray, List.set_cons_succ, List.set_cons_zero]
  refine ⟨.inl ⟨rfl, fun dd w' hd hC hDs => ?_⟩, fun e => ?_⟩
  · go_simp
    first | exact ⟨rfl, hC, Below.refl _ _, trivial⟩ | exact ⟨rfl, Below.refl _ _, trivial⟩ | exact ⟨hC, Below.refl _ _, trivial⟩
  have e' : vs 1 = _ := e
  rw [e']
  clear e e'
  simp only [Act.put, List.setIfInBounds_toArray, List.set_cons_succ, List.set_cons_zero]
  refine ⟨.inl ⟨rfl, fun dd w' hd hC hDs => ?_⟩, fun e => ?_⟩
  · go_simp
    first | exact ⟨rfl, hC, Below.refl _ _, trivial⟩ | exact ⟨rfl, Below.refl _ _, trivial⟩ | exact ⟨hC, Below.refl _ _, trivial⟩
  have e' : vs 2 = _ := e
  rw [e']
  clear e e'
  simp only [Act.put, List.setIfInBounds_toArray, List.set_cons_succ, List.set_cons_zero]
  refine ⟨.inl ⟨rfl, fun dd w' hd hC hDs => ?_⟩, fun e => ?_⟩
  · have q : _ := wN.out
    go_simp
    first | exact ⟨rfl, hC, Below.refl _ _, trivial⟩ | exact ⟨rfl, Below.refl _ _, trivial⟩ | exact ⟨hC, Below.refl _ _, trivial⟩
  have e' : vs 3 = _ := e
  rw [e']
  clear e e'
  simp only [Act.put, List.setIfInBounds_toArray, List.set_cons_succ, List.set_cons_zero]
  refine ⟨.inl ⟨rfl, fun dd w' hd hC hDs => ?_⟩, fun e => ?_⟩
  · exact gE_mkF eltT tT.zero Tryd.underlying24 (by omega) (by omega) rfl rfl rfl fun w2 o2 h2 => ⟨⟨_, rfl⟩, hC.trans (h2.mono hC.size), h2, yD_some rfl ⟨_, rfl, OwnX.lower o2 hC.size⟩⟩
  obtain ⟨g4, e'⟩ : ∃ g : Nat, vs 4 = .slice (some ⟨g, 0, none⟩) N N := e
  rw [e']
  have E4 := hid e'
  clear e'
  simp only [Act.put, List.setIfInBounds_toArray, List.set_cons_succ, List.set_cons_zero]
  refine ⟨.inl ⟨rfl, fun dd w' hd hC hDs => ?_⟩, fun e => ?_⟩
  · obtain ⟨g, f, o4⟩ := hDs 4 (by kernel_rfl)
    rw [E4.out] at f
    simp only [Value.slice.injEq, Option.some.injEq, Addr.mk.injEq, and_true] at f
    obtain rfl := f
    exact gE_bl (fun w => run_build w _ _ _ (built_pt k g4 N N)) (by simp only [List.map_toArray, List.map_cons, List.map_nil]; rfl) ⟨⟨_, rfl⟩, hC, Below.refl _ _, yD_some rfl ⟨_, rfl, o4⟩⟩
  obtain ⟨g5, e'⟩ : ∃ g : Nat, vs 5 = .agg (ptR k (.slice (some ⟨g, 0, none⟩) N N)) := e
  rw [e']
  have E5 := hid e'
  clear e'
  simp only [Act.put, List.setIfInBounds_toArray, List.set_cons_succ, List.set_cons_zero]
  refine ⟨.inl ⟨rfl, fun dd w' hd hC hDs => ?_⟩, fun e => ?_⟩
  · obtain ⟨g, f, o5⟩ := hDs 5 (by kernel_rfl)
    rw [E5.out] at f
    have f2 : (ptR k (.slice (some ⟨g5, 0, none⟩) N N))[32]? = (ptR k (.slice (some ⟨g, 0, none⟩) N N))[32]? := by rw [Value.agg.inj f]
    unfold ptR at f2
    rw [get_row_lt (by omega), get_row_lt (by omega)] at f2
    simp at f2
    obtain rfl := f2
    have ha := (Below.refl w'.heap.size w').alloc (Nat.le_refl _) (.cells (ptR k (.slice (some ⟨g5, 0, none⟩) N N)) 73)
    exact gE_bx rfl ⟨⟨_, rfl⟩, hC.alloc hC.size _, ha, yD_some rfl ⟨_, _, rfl, hC.size, Blk.new _ _ _, OwnX.below o5 ha (Nat.le_refl _)⟩⟩
  obtain ⟨g6, e'⟩ : ∃ b : Nat, vs 6 = .pointer (some ⟨b, 0, none⟩) := e
  rw [e']
  have E6 := hid e'
  clear e'
  simp only [Act.put, List.setIfInBounds_toArray, List.set_cons_succ, List.set_cons_zero]
  intro dd w7 hall h7 hDs
  obtain ⟨b7, g7, f7, hB7, bk7, o7⟩ := hDs 6 (by omega)
  rw [E6.out] at f7
  simp only [Value.pointer.injEq, Option.some.injEq, Addr.mk.injEq, and_true] at f7
  obtain rfl := f7
  have B7 := hid (hbz.out.trans (h7.mono hbz.out.size))
  have BK := hid bk7
  have K7 := hid (z0.out.below h7 z0.out.lt)
  have O7 := hid o7
  have hg7 := (OwnF.lt o7).2
  have hw1 := hbz.out.size
  have hne := hid (PT.ne ⟨bk7, OwnX.lower o7 (Nat.zero_le _), KK.out, fun _ _ => by show 0 < 256; omega⟩)
  have A7 := hid (HA.out.bound.turn (Turn.of_new (S := fun _ => False) B7.out) fun _ _ _ e => e)
  have c7 := ptR_v bk7
  have z0l := hid (show w.heap.size ≠ g7 from by have := z0.out.lt; omega)
  clear hall hDs h7 bk7 o7 E4 E5 E6 z0 hbz HA HP wN
  go_upto_region 6 with (first | ((with_reducible apply wslF (m := n) eltT Tryd.underlying24 elemT); rfl; rfl; omega; omega) | ((with_reducible apply wcpF (m := n) (q := m) eltT Tryd.underlying24); rfl; rfl; rfl; exact O7.out; exact A7.out; omega; omega; intro w8 o8 t8))
  have P8 := hid (show PT w8 g6 g7 N k N (tagsFrom t n) from ⟨BK.out.turn t8 hne.out, OwnX.lower (OwnF.ext o8 fun q j hq _ => by rw [CP.out q hq]) (Nat.zero_le _), KK.out, fun i j => tagsFrom256 T256.out _ _ _⟩)
  have K8 := hid (K7.out.turn t8 z0l.out)
  have B8 := hid (B7.out.trans (t8.below (by have := B7.out.size; omega) fun q e => by omega))
  have hg6 := hB7
  clear c7 BK O7 K7 B7 A7 o8 t8 hB7
  obtain ⟨n1, hn1⟩ : ∃ n1, n1 = n - 1 := ⟨_, rfl⟩
  have w1e : (n : Int) - 1 = (n1 : Int) := by omega
  have hn11 : n1 + 1 = n := by omega
  have hn12 : n1 < n := by omega
  have P9 := hid (show PT w8 g6 g7 N k N (tagsFrom t (n1 + 1)) by rw [hn11]; exact P8.out)
  clear P8 hn1 hn11
  go_wp2_with fail
  clear w1e
  go_loopw [10] (fun v wr => ∃ j : Nat, j < n ∧ v = .int .i64 j ∧ Hid (PT wr g6 g7 N k N (tagsFrom t (j + 1))) ∧ Hid (Blk wr w.heap.size 23 (ar 32 k)) ∧ Hid (Below w.heap.size w wr)) (fun v _ => (intOf v).toNat)
  case atStart => exact ⟨n1, hn12, rfl, P9, K8, B8⟩
  case round =>
    clear P9 K8 B8
    obtain ⟨j, hj, rfl, hp, hkb, hb⟩ := hrel
    by_cases hlt : 1 ≤ j
    · have ti : (1 : Int) ≤ (j : Int) := by omega
      obtain ⟨s, hs⟩ : ∃ s, s = t.nd j := ⟨_, rfl⟩
      have HSS := hid (show ∀ i, s i < 256 from fun i => by
        rw [hs]
        unfold Tr.nd joined
        split
        · exact tg256 T256.out _ _
        · exact tg256 T256.out _ _)
      have SEC := hid (fun (w' : World) (hw' : Below wr.heap.size wr w') => sector_any (hp.out.below hw') hN8 j (by omega))
      rw [show joined (tagsFrom t (j + 1) (2 * j)) (tagsFrom t (j + 1) (2 * j + 1)) = s by
        unfold tagsFrom
        rw [if_pos (by omega), if_pos (by omega), hs]
        rfl] at SEC
      obtain ⟨f3, hf3⟩ : ∃ f, f = t.tg j := ⟨_, rfl⟩
      have NT := hid (fun (w' : World) (hw' : Below w.heap.size w w') => node_any k KK.out (j : Int) ⟨by omega, by omega⟩ s HSS.out w' (SA.out.on hw'))
      rw [show HmM.tag (HmM.dl k) (BytM.rowB 78 [BytM.dig 8 (TgP.bits (j : Int)), ls 64 s]) = f3 by rw [hf3, TG.out j hlt hj, ← hs]; rfl] at NT
      have FE := hid hf3
      have cp := hid hp.out.c
      have g6l := hp.out.lt.1
      have kl := hkb.out.lt
      have l1 : j < N := by omega
      clear hs hf3
      go_upto_region 9 with fail
      refine wp_region_tail (C := fun w' => Below wr.heap.size wr w') 12 (by kernel_rfl) (by kernel_rfl) (by kernel_rfl) (Below.refl _ _).drew ?_
      simp only [List.take_succ_cons, List.take_zero, List.drop_succ_cons, List.drop_zero]
      apply wpK_val
      · rfl
      · intro w' hw'
        go_simp
        first | exact rfl | exact ⟨rfl, hw'⟩
      simp only [Act.put, List.setIfInBounds_toArray, List.set_cons_succ, List.set_cons_zero]
      apply wpK_val
      · rfl
      · intro w' hw'
        go_simp
        first | exact rfl | exact ⟨rfl, hw'⟩
      simp only [Act.put, List.setIfInBounds_toArray, List.set_cons_succ, List.set_cons_zero]
      apply wpK_val
      · rfl
      · intro w' hw'
        go_simp
        first | exact rfl | exact ⟨rfl, hw'⟩
      simp only [Act.put, List.setIfInBounds_toArray, List.set_cons_succ, List.set_cons_zero]
      apply wpK_val
      · rfl
      · intro w' hw'
        have hcell := (hw'.cell (p := ⟨g6, 32, none⟩) g6l).trans cp.out
        go_simp
        first | exact rfl | exact ⟨rfl, hw'⟩
      simp only [Act.put, List.setIfInBounds_toArray, List.set_cons_succ, List.set_cons_zero]
      apply wpK_val
      · rfl
      · intro w' hw'
        go_simp
        first | exact rfl | exact ⟨rfl, hw'⟩
      simp only [Act.put, List.setIfInBounds_toArray, List.set_cons_succ, List.set_cons_zero]
      apply kldA tK
      · rfl
      · rfl
      · exact fun w' hw' => (hkb.out.below hw' kl).head
      simp only [Act.put, List.setIfInBounds_toArray, List.set_cons_succ, List.set_cons_zero]
      apply wpK_val
      · rfl
      · intro w' hw'
        go_simp
        first | exact rfl | exact ⟨rfl, hw'⟩
      simp only [Act.put, List.setIfInBounds_toArray, List.set_cons_succ, List.set_cons_zero]
      apply wpK_val
      · rfl
      · intro w' hw'
        go_simp
        first | exact rfl | exact ⟨rfl, hw'⟩
      simp only [Act.put, List.setIfInBounds_toArray, List.set_cons_succ, List.set_cons_zero]
      apply wpK_val
      · rfl
      · intro w' hw'
        go_simp
        first | exact rfl | exact ⟨rfl, hw'⟩
      simp only [Act.put, List.setIfInBounds_toArray, List.set_cons_succ, List.set_cons_zero]
      apply wpK_val
      · rfl
      · intro w' hw'
        go_simp
        exact (SEC.out w' hw').mono fun e w5 h => ⟨h.1, hw'.trans (h.2.mono hw'.size)⟩
      simp only [Act.put, List.setIfInBounds_toArray, List.set_cons_succ, List.set_cons_zero]
      apply wpK_val
      · rfl
      · intro w' hw'
        go_simp
        exact (NT.out w' (hb.out.trans (hw'.mono hb.out.size))).mono fun e w5 h => ⟨h.1, hw'.trans (h.2.mono hw'.size)⟩
      simp only [Act.put, List.setIfInBounds_toArray, List.set_cons_succ, List.set_cons_zero]
      apply wpK_val
      · rfl
      · intro w' hw'
        have l1 : j < N := l1
        go_simp
        first | exact rfl | exact ⟨rfl, hw'⟩
      simp only [Act.put, List.setIfInBounds_toArray, List.set_cons_succ, List.set_cons_zero]
      refine wpK_nil fun w7 h7 => ?_
      have p7 := hid (hp.out.below h7)
      have k7 := hid (hkb.out.below h7 kl)
      have b7 := hid (hb.out.trans (h7.mono hb.out.size))
      clear hp hkb hb SEC NT cp h7
      go_wp2_with ((with_reducible apply wstF (i := j) tT (by omega)); rfl; rfl; rfl; exact p7.out.own; omega; intro w8 o8 t8)
      go_roundw
      case rel => exact ⟨j - 1, by omega, by go_num, hid ⟨p7.out.blk.turn t8 hne.out, o8.ext fun q z _ _ => by
          unfold upF tagsFrom
          rw [show j - 1 + 1 = j by omega]
          by_cases e : q = j
          · rw [if_pos e, if_pos (by omega), e, FE.out]
          · rw [if_neg e]
            by_cases e2 : j + 1 ≤ q
            · rw [if_pos e2, if_pos (by omega)]
            · rw [if_neg e2, if_neg (by omega)], KK.out, fun a z => tagsFrom256 T256.out _ _ _⟩, hid (k7.out.turn t8 z0l.out), hid (b7.out.trans (t8.below (by have := b7.out.size; omega) fun q e => by omega))⟩
      case measure => simp [intOf] <;> omega
    · have t9 : ¬ (1 : Int) ≤ (j : Int) := by omega
      have R9 := hid (show repL wr g6 (fun b => b = g6 ∨ b = g7) t from ⟨g7, N, by
        rw [Tk.out, Tn.out, ← NE.out]
        have := hp.out
        rwa [show j + 1 = 1 by omega] at this, by rw [Th.out]; exact h1, by rw [Th.out]; exact h12, ⟨T256.out, by have := SA.out.1; omega⟩, rfl⟩)
      have HBE := hid hb.out
      clear hp hkb hb
      go_wp2_with fail
      go_ret2
      exact ⟨g6, rfl, fun b => b = g6 ∨ b = g7, R9.out, fun b hb => hb.elim (fun e => by omega) fun e => by omega, HBE.out⟩
end TrM
end Go.Proofs.YtdmnhpgafbcehaaDoor
set_option maxRecDepth 100000
namespace Go.Proofs.YtdmnhpgafbcehaaDoor
open Go.ChangeShapes Go.WideShapes Go.ChangeAt Go.RowKit
namespace StM
/-- What the loop may turn: the box of what is collected, and what is new. -/
def Tl (hl B : Nat) (k : Nat) : Prop := k = hl ∨ B ≤ k
theorem turn_putObj {T : Nat → Prop} (W : World) (l : Nat) (o' : Obj) (hl : T l) : Turn T W (W.putObj l o') := Turn.of_grown (grownBy_putObj' W l o') fun k e => by cases e; exact hl
theorem row_low {W : World} {B B' : Nat} {e : TypeId} {size : Nat} {v : Value} {k : Nat} {xs : List Value} (h : W.ownsRow B e size v k xs) (hB : B' ≤ B) : W.ownsRow B' e size v k xs :=
  ⟨h.1, h.2.imp id fun ⟨g, cap, cur, hv, hg, rest⟩ => ⟨g, cap, cur, hv, Nat.le_trans hB hg, rest⟩⟩
/-- An append to what a box holds, where the box lies ahead of the loop, and the row behind. -/
theorem box_app {W w1 : World} {n₀ B : Nat} {t e : TypeId} {size : Nat} {v v' : Value} {k m : Nat} {xs ys : List Value} {tmp : Obj} {T : Nat → Prop}
    (hv : Boxed W B t v) (hte : t ≠ e) (hrow : W.ownsRow n₀ e size v k xs) (hn₀ : n₀ ≤ W.heap.size) (hB : T B) (hT : ∀ k, n₀ ≤ k → T k)
    (hown' : w1.ownsRow n₀ e size v' m ys) (hgrow : (W.alloc tmp).grownBy w1 v.ownBlock) :
    Boxed w1 B t v ∧ Boxed (w1.setCell ⟨B, 0, none⟩ v') B t v' ∧ (w1.setCell ⟨B, 0, none⟩ v').ownsRow n₀ e size v' m ys ∧ KeepsOthers W (w1.setCell ⟨B, 0, none⟩ v') ∧ Turn T W (w1.setCell ⟨B, 0, none⟩ v') := by
  obtain ⟨h1, h2, _, h4, _⟩ := hv.appended hte (row_low hrow (Nat.zero_le _)) (Nat.zero_le _) (Nat.zero_le _) (row_low hown' (Nat.zero_le _)) hgrow
  refine ⟨h1, h2, hown'.kept (grownBy_setCell' w1 B v') (.inr (h1.not_row hte hown').symm), h4, ?_⟩
  refine ((Turn.alloc (S := T) W tmp).trans (Turn.of_grown (S := T) hgrow fun j ej => hT j ?_) fun _ e => .inl e).trans (Turn.setCell (S := T) w1 ⟨B, 0, none⟩ v' hB) fun _ e => .inl e
  rcases hrow.2 with ⟨rfl, _⟩ | ⟨g, cap, cur, rfl, hb, _, _⟩
  · simp [Value.ownBlock] at ej
  · obtain rfl : g = j := by simpa [Value.ownBlock] using ej
    exact hb
theorem infoI : (Tryd.prog.info? 3).map (fun i => (i.zero, i.size, i.bytes)) = some (some (.int .i64 0), 1, 8) := by kernel_rfl
end StM
end Go.Proofs.YtdmnhpgafbcehaaDoor
