/-
  The document's Check.
  Trees of tags in plain numbers: own proofs are taken; what another proof that is taken means; what one leaf turns.
  What the program's tree answers, as hypotheses of the laws (TreeC): repT = how it lies in memory, and in which blocks.
  The tag of a known text under a known key, reckoned out.
-/
import Derived.Test.YtdmnhpgafbcehaaDoorMrg6
set_option linter.unusedVariables false
set_option linter.unusedSimpArgs false
set_option maxRecDepth 100000
namespace Go.Proofs.YtdmnhpgafbcehaaDoor
open Go.ChangeShapes Go.WideShapes Go.ChangeAt Go.RowKit
attribute [local go_sem] Gives
namespace TrM
open TgP RwP
/-- One of a sector's two tags. -/
def half (b : Nat) (s : Nat → Nat) : Nat → Nat := if b = 0 then s else fun j => s (32 + j)
/-- Do the sectors lead from the tag of the number below to the top? -/
def chkF (k : Nat → Nat) (P : Nat → Nat → Nat) (top : Nat → Nat) : Nat → Nat → Nat → (Nat → Nat) → Bool
  | 0, _, _, tag => eqA 32 tag top
  | m + 1, i, below, tag => eqA 32 (half (below % 2) (P i)) tag && chkF k P top m (i + 1) (below / 2) (ndT k (below / 2) (P i))
def chk (k : Nat → Nat) (leaf : Int) (tag : Nat → Nat) (n : Nat) (P : Nat → Nat → Nat) (top : Nat → Nat) : Bool := decide (pathOk n leaf) && chkF k P top n 0 (2 ^ n + leaf.toNat) tag
theorem chk_no {k : Nat → Nat} {leaf : Int} {tag : Nat → Nat} {n : Nat} {P : Nat → Nat → Nat} {top : Nat → Nat} (h : ¬ pathOk n leaf) : chk k leaf tag n P top = false := by
  unfold chk; rw [decide_eq_false h]; rfl
theorem chk_yes {k : Nat → Nat} {leaf : Nat} {tag : Nat → Nat} {n : Nat} {P : Nat → Nat → Nat} {top : Nat → Nat} (h : pathOk n leaf) : chk k leaf tag n P top = chkF k P top n 0 (2 ^ n + leaf) tag := by
  unfold chk; rw [decide_eq_true h, Bool.true_and, Int.toNat_natCast]
end TrM
end Go.Proofs.YtdmnhpgafbcehaaDoor
set_option maxRecDepth 100000
namespace Go.Proofs.YtdmnhpgafbcehaaDoor
open Go.RowKit
namespace TrM
open TgP RwP
theorem eqA_refl (n : Nat) (f : Nat → Nat) : eqA n f f = true := eqA_yes fun _ _ => rfl
theorem half_nd {t : Tr} {b : Nat} : ∀ i, i < 32 → half (b % 2) (t.nd (b / 2)) i = t.tg b i := fun i hi => by
  unfold half Tr.nd joined
  rcases (show b % 2 = 0 ∨ b % 2 = 1 by omega) with h | h
  · rw [h, if_pos rfl, if_pos hi, show 2 * (b / 2) = b by omega]
  · rw [h, if_neg (by omega)]
    show (if 32 + i < 32 then _ else _) = _
    rw [if_neg (by omega), show 2 * (b / 2) + 1 = b by omega, show 32 + i - 32 = i by omega]
theorem chk_own_from {t : Tr} {leaf : Nat} (hl : leaf < t.n) : ∀ (m i b : Nat), i + m = t.h → b / 2 = pth t.h leaf i → 1 ≤ b → b < 2 * t.n → (m = 0 → b = 1) → chkF t.k (prf t leaf) (t.tg 1) m i b (t.tg b) = true
  | 0, i, b, hi, _, _, _, h0 => by
    rw [h0 rfl]
    exact eqA_refl _ _
  | m + 1, i, b, hi, hb, h1, h2, _ => by
    unfold chkF
    have hp : prf t leaf i = t.nd (b / 2) := by unfold prf; rw [hb]
    have hp1 : 1 ≤ b / 2 := by rw [hb]; exact pth_pos (by omega)
    have hp2 : b / 2 < t.n := by rw [hb]; exact pth_lt hl
    rw [hp, eqA_yes half_nd, Bool.true_and, ← Tr.tg_node hp1 hp2]
    refine chk_own_from hl m (i + 1) (b / 2) (by omega) (by rw [hb, pth_succ]) hp1 (by omega) fun hm => ?_
    subst hm
    rw [hb, show i = t.h - 1 by omega]
    exact pth_last hl (by omega)
/-- A leaf's own tag and proof are taken. -/
theorem chk_own {t : Tr} (h1 : 1 ≤ t.h) (h2 : t.h ≤ 12) {leaf : Nat} (hl : leaf < t.n) : chk t.k leaf (t.L leaf) t.h (prf t leaf) (t.tg 1) = true := by
  rw [chk_yes ⟨⟨by omega, by omega⟩, by omega, by rw [Int.toNat_natCast]; show (leaf : Int) < ((t.n : Nat) : Int); omega⟩]
  have hle : t.L leaf = t.tg (2 ^ t.h + leaf) := by
    rw [Tr.tg_leaf (by show 2 ^ t.h ≤ _; omega)]
    congr 1
    show leaf = 2 ^ t.h + leaf - 2 ^ t.h
    omega
  rw [hle]
  exact chk_own_from hl t.h 0 _ (by omega) (pth_zero _ _).symm (by have := t.n_pos; show 1 ≤ t.n + leaf; omega) (by show t.n + leaf < _; omega) fun h => by omega
end TrM
end Go.Proofs.YtdmnhpgafbcehaaDoor
set_option maxRecDepth 100000
namespace Go.Proofs.YtdmnhpgafbcehaaDoor
open Go.ChangeShapes Go.WideShapes Go.ChangeAt Go.RowKit
namespace TrM
open TgP RwP
abbrev RepT := World → Nat → (Nat → Prop) → Tr → Prop
abbrev pT (g : Nat) : Value := .pointer (some ⟨g, 0, none⟩)
structure TreeC (repT : RepT) : Prop where
  lt : ∀ {w g M t}, repT w g M t → g < w.heap.size ∧ ∀ b, M b → b < w.heap.size
  keep : ∀ {w w' g M t} {S : Nat → Prop}, repT w g M t → Turn S w w' → (∀ b, M b → ¬ S b) → repT w' g M t
  wf : ∀ {w g M t}, repT w g M t → 1 ≤ t.h ∧ t.h ≤ 12 ∧ (∀ i, t.k i < 256) ∧ ∀ i j, t.L i j < 256
  newNo : ∀ (k : Nat → Nat) (h : Int) (A : Option Addr) (m cap : Nat), (h < 1 ∨ 12 < h ∨ (okH h ∧ 2 ^ h.toNat < m)) → ∀ w : World,
    Calls Tryd.prog 10 #[.agg (ar 32 k), .int .i64 h, .slice A m cap] w fun e w' => e = .returned (.tuple #[.pointer none, .int .i64 2]) ∧ Below w.heap.size w w'
  new : ∀ (k : Nat → Nat), (∀ i, k i < 256) → ∀ (h : Nat), okH h → ∀ (A : Option Addr) (F : Nat → Nat → Nat), (∀ i j, F i j < 256) → ∀ (m cap : Nat), m ≤ 2 ^ h → ∀ (S : Nat → Prop) (w : World), SliF 32 S w A m F cap → Salts w →
    Calls Tryd.prog 10 #[.agg (ar 32 k), .int .i64 (h : Nat), .slice A m cap] w fun e w' => ∃ (g : Nat) (M : Nat → Prop), e = .returned (.tuple #[pT g, .int .i64 0]) ∧ repT w' g M ⟨k, h, newL m F⟩ ∧ (∀ b, M b → w.heap.size ≤ b) ∧ Below w.heap.size w w'
  top : ∀ {w : World} {g : Nat} {M : Nat → Prop} {t : Tr}, repT w g M t → Salts w →
    Calls Tryd.prog 22 #[pT g] w fun e w' => e = .returned (.agg (ar 32 (t.tg 1))) ∧ Below w.heap.size w w'
  set : ∀ {w : World} {g : Nat} {M : Nat → Prop} {t : Tr} (leaf : Nat) (f : Nat → Nat), leaf < t.n → (∀ i, f i < 256) → repT w g M t → Salts w →
    Calls Tryd.prog 12 #[pT g, .int .i64 leaf, .agg (ar 32 f)] w fun e w' => ∃ (v : Value) (M' : Nat → Prop), e = .returned (.tuple #[v, .int .i64 0]) ∧ OwnI w' w.heap.size v (chg t (t.set leaf f) leaf) ∧ repT w' g M' (t.set leaf f) ∧ (∀ b, M' b → M b ∨ w.heap.size ≤ b) ∧ (∀ b, v.ownBlock = some b → ¬ M' b) ∧ Turn M w w'
  proof : ∀ {w : World} {g : Nat} {M : Nat → Prop} {t : Tr} (leaf : Nat), leaf < t.n → repT w g M t → Salts w →
    Calls Tryd.prog 19 #[pT g, .int .i64 leaf] w fun e w' => ∃ v, e = .returned (.tuple #[v, .int .i64 0]) ∧ OwnF 50 64 w' w.heap.size v t.h (prf t leaf) ∧ Below w.heap.size w w'
  check : ∀ (k f top : Nat → Nat), (∀ i, k i < 256) → ∀ (leaf : Int) (A : Option Addr) (P : Nat → Nat → Nat), (∀ i j, P i j < 256) → ∀ (n cap : Nat), ∀ (S : Nat → Prop) (w : World), SliF 64 S w A n P cap → Salts w →
    Calls Tryd.prog 23 #[.agg (ar 32 k), .int .i64 leaf, .agg (ar 32 f), .slice A n cap, .agg (ar 32 top)] w fun e w' => e = .returned (.bool (chk k leaf f n P top)) ∧ Below w.heap.size w w'
/-- Beside these, what some of the laws ask. -/
structure TreeD (repT : RepT) : Prop where
  tagNo : ∀ {w : World} {g : Nat} {M : Nat → Prop} {t : Tr} (j : Int), ¬ t.has j → repT w g M t → Salts w →
    Calls Tryd.prog 15 #[pT g, .int .i64 j] w fun e w' => e = .returned (.tuple #[.agg (ar 32 fun _ => 0), .int .i64 2]) ∧ Below w.heap.size w w'
  tag : ∀ {w : World} {g : Nat} {M : Nat → Prop} {t : Tr} (j : Nat), t.has j → repT w g M t → Salts w →
    Calls Tryd.prog 15 #[pT g, .int .i64 j] w fun e w' => e = .returned (.tuple #[.agg (ar 32 (t.tg j)), .int .i64 0]) ∧ Below w.heap.size w w'
  nodNo : ∀ {w : World} {g : Nat} {M : Nat → Prop} {t : Tr} (j : Int), ¬ t.hasN j → repT w g M t → Salts w →
    Calls Tryd.prog 17 #[pT g, .int .i64 j] w fun e w' => e = .returned (.tuple #[.agg (ar 64 fun _ => 0), .int .i64 2]) ∧ Below w.heap.size w w'
  nod : ∀ {w : World} {g : Nat} {M : Nat → Prop} {t : Tr} (j : Nat), t.hasN j → repT w g M t → Salts w →
    Calls Tryd.prog 17 #[pT g, .int .i64 j] w fun e w' => e = .returned (.tuple #[.agg (ar 64 (t.nd j)), .int .i64 0]) ∧ Below w.heap.size w w'
  setNo : ∀ {w : World} {g : Nat} {M : Nat → Prop} {t : Tr} (leaf : Int) (f : Nat → Nat), ¬ (0 ≤ leaf ∧ leaf < (t.n : Nat)) → repT w g M t → Salts w →
    Calls Tryd.prog 12 #[pT g, .int .i64 leaf, .agg (ar 32 f)] w fun e w' => e = .returned (.tuple #[.slice none 0 0, .int .i64 2]) ∧ Below w.heap.size w w'
  proofNo : ∀ {w : World} {g : Nat} {M : Nat → Prop} {t : Tr} (leaf : Int), ¬ (0 ≤ leaf ∧ leaf < (t.n : Nat)) → repT w g M t → Salts w →
    Calls Tryd.prog 19 #[pT g, .int .i64 leaf] w fun e w' => e = .returned (.tuple #[.slice none 0 0, .int .i64 2]) ∧ Below w.heap.size w w'
  pathNo : ∀ (h leaf : Int), ¬ pathOk h leaf → ∀ w : World, Calls Tryd.prog 25 #[.int .i64 h, .int .i64 leaf] w fun e w' => ∃ v, e = .returned v ∧ OwnI w' w.heap.size v [] ∧ Below w.heap.size w w'
  path : ∀ (h leaf : Nat), okH h → leaf < 2 ^ h → ∀ w : World, Calls Tryd.prog 25 #[.int .i64 (h : Nat), .int .i64 (leaf : Nat)] w fun e w' => ∃ v, e = .returned v ∧ OwnI w' w.heap.size v (pthL h leaf) ∧ Below w.heap.size w w'
end TrM
end Go.Proofs.YtdmnhpgafbcehaaDoor
namespace Go.Proofs.YtdmnhpgafbcehaaDoor
theorem ShaM.passes_block {s : ShaM.S8} {k r : List Nat} (h : k.length = 64) : ShaM.passes s (k ++ r) = ShaM.passes (ShaM.pass s (ShaM.at' k)) r := by
  rw [ShaM.passes_append 1 (by omega), ShaM.passes_long (l := k) (by omega), ShaM.passes_short (l := k.drop 64) (by rw [List.length_drop]; omega)]
set_option maxRecDepth 100000
end Go.Proofs.YtdmnhpgafbcehaaDoor
