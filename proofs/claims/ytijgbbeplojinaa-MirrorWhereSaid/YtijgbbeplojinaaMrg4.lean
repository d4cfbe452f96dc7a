/-
  The landed mirror: where a write lies.
  Loops over functions: what a loop may turn; an append to what a box holds.
  A range over a function whose body may turn what it made itself, maps too: the loop's own two blocks alone are kept.
  Lists of ints of the call's own.
  Lists of ints as lists of elements.
  The landed mirror: a write's members gone through by a function; Where.
  Contracts of geom.around (slices.IndexFunc, its closure) and What over this translation.
  The contract of geom.What over this translation.
  Contracts of the document's geometry (casemateref14) over this translation: the same plain numbers.
  Contracts of the document's places (casemateref14.Place, What) over this translation.
  Contracts of the document's place (casemateref15) over this translation: the same plain numbers.
  The document's Where.
  Contract of casemateref16.Ints: two lists of ints compared.
  Lists of elements: a literal of three elements.
  Lists of elements: a literal of four elements.
  The laws' own calls: given, node, small, is, awake.
  The law MirrorWhere: the members of any write, of any geometry.
-/
import Derived.Test.YtijgbbeplojinaaMrg3
import Derived.RangeFuncNested
import Derived.RangeFuncBound
import Derived.RangeFuncCalls
import Derived.RangeFuncLeaves
import Derived.RangeFuncBox
import Derived.Maps.AppendAt
import Derived.Shelf.Abstract
import Derived.Shelf.RegionOpen
import Derived.WalkKit
import Derived.OwnWalkIn
import Derived.TacticsInMore
import Derived.LoopNIn
import Derived.LoopIn
import Derived.Laws.AppendOwn
import Derived.OwnWalk
import Derived.ProofKit
set_option linter.unusedVariables false
set_option linter.unusedSimpArgs false
set_option maxRecDepth 100000
namespace Go.Proofs.Ytijgbbeplojinaa
open Go.ChangeShapes Go.WideShapes Go.ChangeAt Go.RowKit
attribute [local go_sem] Gives GivesE
namespace MiM
open GeM
theorem ret_rowM {a : Act} {w : World} {g : Nat} {t T : TypeId} {cs : Array Value} {fn : Func} {R : Ending → World → Prop} {p q : Tmp} {v : Value} (hT : RowT T cs.size) (hr : fn.results = #[.cell p T, .tmp q]) (hp : a.tmps.getD p undef = .pointer (some ⟨g, 0, none⟩))
    (hq : a.tmps.getD q undef = v) (hdf : a.defers = []) (hb : Blk w g t cs) (hR : R (.returned (.tuple #[.agg cs, v])) w) : bodyPost Try.prog fn R .ret a w := by
  obtain ⟨d, h1, h2⟩ := hT.desc
  refine bodyPost_ret ?_ hdf hR
  have hv : (loadVar T ⟨g, 0, none⟩).run Try.prog w = .ok (.agg cs) w := run_loadVar_row w g _ _ cs (0, 0) _ hb h1 (by cases d <;> first | rfl | exact h2) hT.size
  have hp' : a.tmps[p]?.getD undef = .pointer (some ⟨g, 0, none⟩) := by simpa using hp
  have hq' : a.tmps[q]?.getD undef = v := by simpa using hq
  simp [results, hr, hp', hq', asAddr, hv]
abbrev tyW : TypeId := 27
abbrev tyH : TypeId := 103
/-- A write as it is handed down. -/
def wrL (k i : Int) (x : Nat → Nat) : List Value := .int .i64 k :: .int .i64 i :: (ar 64 x).toList
theorem wrL_len (k i : Int) (x : Nat → Nat) : (wrL k i x).length = 66 := by unfold wrL; simp [size_ar]
theorem tWr (k i : Int) (x : Nat → Nat) : RowT tyW (wrL k i x).toArray.size := by
  rw [List.size_toArray, wrL_len]
  exact ⟨by kernel_rfl, _, Try.underlying27, rfl⟩
theorem wr_k {w : World} {g : Nat} {k i : Int} {x : Nat → Nat} (h : Blk w g tyW (wrL k i x).toArray) : w.cell? ⟨g, 0, none⟩ = some (.int .i64 k) := h.cell 0
theorem wr_i {w : World} {g : Nat} {k i : Int} {x : Nat → Nat} (h : Blk w g tyW (wrL k i x).toArray) : w.cell? ⟨g, 1, none⟩ = some (.int .i64 i) := h.cell 1
def hoL (f n p : Nat) : Array Value := #[.int .i64 (f : Nat), .int .i64 (n : Nat), .int .i64 (p : Nat)]
theorem tHo (f n p : Nat) : RowT tyH (hoL f n p).size := ⟨by kernel_rfl, _, Try.underlying103, rfl⟩
theorem ho_one (f n p : Nat) : (hoL f n p).all (·.oneCell') = true := by unfold hoL; simp [Value.oneCell']
/-- What is told of a write's place. -/
def hoV : Option (Nat × Nat × Nat) → Value
  | some (f, n, p) => .tuple #[.agg (hoL f n p), .int .i64 0]
  | none => .tuple #[.agg (hoL 0 0 0), .int .i64 2]
/-- The blocks that are made ahead of all. -/
structure HoB (w : World) (a b k i : Int) (x : Nat → Nat) (gg gw gh : Nat) (w1 : World) : Prop where
  geo : Blk w1 gg tyG #[.int .i64 a, .int .i64 b]
  wr : Blk w1 gw tyW (wrL k i x).toArray
  ho : Blk w1 gh tyH (hoL 0 0 0)
  bel : Below w.heap.size w w1
  lo : w.heap.size ≤ gh
theorem HoB.on {w : World} {a b k i : Int} {x : Nat → Nat} {gg gw gh : Nat} {w1 w2 : World} (h : HoB w a b k i x gg gw gh w1) (hb : Below w1.heap.size w1 w2) : HoB w a b k i x gg gw gh w2 :=
  ⟨h.geo.below hb h.geo.lt, h.wr.below hb h.wr.lt, h.ho.below hb h.ho.lt, h.bel.trans (hb.mono h.bel.size), h.lo⟩
theorem HoB.mk' (w : World) (a b k i : Int) (x : Nat → Nat) : HoB w a b k i x w.heap.size (w.heap.size + 1) (w.heap.size + 2) (((w.alloc (.cells #[.int .i64 a, .int .i64 b] tyG)).alloc (.cells (wrL k i x).toArray tyW)).alloc (.cells (hoL 0 0 0) tyH)) :=
  ⟨((Blk.new _ _ _).alloc _).alloc _, (Blk.top rfl (by simp)).alloc _, Blk.top rfl (by simp), (((Below.refl _ _).alloc (Nat.le_refl _) _).alloc (by simp) _).alloc (by simp; omega) _, by omega⟩
theorem hom_1 {a b i : Int} : hom a b 1 i = (pl a b 1 i).map fun p => (0, a.toNat, p) := rfl
theorem hom_3 {a b i : Int} : hom a b 3 i = (pl a b 3 i).map fun p => (i.toNat, 3, p) := rfl
theorem hom_4 {a b i : Int} (h : Om a b i (L lv a b)) : hom a b 4 i = (pl a b 4 ((i.toNat / a.toNat : Nat) : Int)).map fun p => (i.toNat % a.toNat, 1, p) := by
  show (if Om a b i (L lv a b) then _ else none) = _
  rw [if_pos h]
theorem hom_4n {a b i : Int} (h : ¬ Om a b i (L lv a b)) : hom a b 4 i = none := by
  show (if Om a b i (L lv a b) then _ else none) = _
  rw [if_neg h]
theorem hom_o {a b k i : Int} (h1 : k ≠ 1) (h3 : k ≠ 3) (h4 : k ≠ 4) : hom a b k i = none := by unfold hom; rw [if_neg h1, if_neg h3, if_neg h4]
set_option maxHeartbeats 1600000 in
theorem home_any (a b k i : Int) (x : Nat → Nat) (hi : -9223372036854775808 ≤ i ∧ i ≤ 9223372036854775807) (w : World) : Calls Try.prog 48 #[gv a b, .agg (wrL k i x).toArray] w fun e w' => e = .returned (hoV (hom a b k i)) ∧ Below w.heap.size w w' := by
  obtain ⟨R, hR⟩ : ∃ R, R = hom a b k i := ⟨_, rfl⟩
  rw [← hR]
  have HR := hid hR
  clear hR
  unfold gv
  go_enter Try.func48, Try.ntmps48
  go_upto_region 1 with fail
  obtain ⟨gg, hgg⟩ : ∃ g, g = w.heap.size := ⟨_, rfl⟩
  obtain ⟨gw, hgw⟩ : ∃ g, g = w.heap.size + 1 := ⟨_, rfl⟩
  obtain ⟨gh, hgh⟩ : ∃ g, g = w.heap.size + 2 := ⟨_, rfl⟩
  rw [show w.heap.size + 1 + 1 = gh by omega, ← hgw, ← hgg]
  generalize hW : World.alloc (World.alloc (World.alloc w _) _) _ = w1
  have E1 := hid (show HoB w a b k i x gg gw gh w1 by rw [hgg, hgw, hgh, ← hW]; exact HoB.mk' w a b k i x)
  have r0 := wr_k E1.out.wr
  have r1 := wr_i E1.out.wr
  have s0 : w1.cell? ⟨gg, 0, none⟩ = some (.int .i64 a) := E1.out.geo.cell 0
  clear hgg hgw hgh hW
  by_cases k1 : k = 1
  · subst k1
    go_wp2_with ((with_reducible apply ldR (cs := #[Value.int .i64 a, .int .i64 b]) (tGe _ _)); rfl; exact E1.out.geo.whole)
    refine (place_any a b 1 i hi _).mono ?_
    rintro e w2 ⟨rfl, h2⟩
    have E2 := hid (E1.out.on h2)
    clear h2 E1 r0 r1 s0
    cases hp : pl a b 1 i with
    | none =>
      unfold plV
      go_wp2_with ((with_reducible apply stR (tHo 0 0 0)); rfl; rfl; exact E2.out.ho; rfl; exact ho_one _ _ _)
      refine ret_rowM (tHo 0 0 0) rfl rfl rfl rfl (E2.out.ho.setRow_same _) ?_
      exact ⟨by rw [HR.out, hom_1, hp]; rfl, below_setRow E2.out.bel E2.out.lo _⟩
    | some p =>
      obtain ⟨m, q, rfl, rfl, _⟩ := good_nat (pl_some hp).1
      unfold plV
      go_wp2_with ((with_reducible apply stR (tHo 0 m p)); rfl; rfl; exact E2.out.ho; rfl; exact ho_one _ _ _)
      refine ret_rowM (tHo 0 m p) rfl rfl rfl rfl (E2.out.ho.setRow_same _) ?_
      exact ⟨by rw [HR.out, hom_1, hp]; rfl, below_setRow E2.out.bel E2.out.lo _⟩
  by_cases k3 : k = 3
  · subst k3
    clear k1
    go_wp2_with ((with_reducible apply ldR (cs := #[Value.int .i64 a, .int .i64 b]) (tGe _ _)); rfl; exact E1.out.geo.whole)
    refine (place_any a b 3 i hi _).mono ?_
    rintro e w2 ⟨rfl, h2⟩
    have E2 := hid (E1.out.on h2)
    clear h2 E1 r0 r1 s0
    cases hp : pl a b 3 i with
    | none =>
      unfold plV
      go_wp2_with ((with_reducible apply stR (tHo 0 0 0)); rfl; rfl; exact E2.out.ho; rfl; exact ho_one _ _ _)
      refine ret_rowM (tHo 0 0 0) rfl rfl rfl rfl (E2.out.ho.setRow_same _) ?_
      exact ⟨by rw [HR.out, hom_3, hp]; rfl, below_setRow E2.out.bel E2.out.lo _⟩
    | some p =>
      have hl := (pl_some hp).2.2.2.1
      obtain ⟨y, rfl⟩ : ∃ y : Nat, i = y := ⟨i.toNat, by omega⟩
      unfold plV
      go_wp2_with ((with_reducible apply stR (tHo y 3 p)); rfl; rfl; exact E2.out.ho; rfl; exact ho_one _ _ _)
      refine ret_rowM (tHo y 3 p) rfl rfl rfl rfl (E2.out.ho.setRow_same _) ?_
      exact ⟨by rw [HR.out, hom_3, hp]; rfl, below_setRow E2.out.bel E2.out.lo _⟩
  by_cases k4 : k = 4
  · subst k4
    clear k1 k3
    go_wp2_with ((with_reducible apply ldR (cs := #[Value.int .i64 a, .int .i64 b]) (tGe _ _)); rfl; exact E1.out.geo.whole)
    refine (at_any a b i _).mono ?_
    rintro e w2 ⟨rfl, h2⟩
    have E2 := hid (E1.out.on h2)
    clear h2 E1 r0 r1 s0
    by_cases ho : Om a b i (L lv a b)
    · have HR := hid (HR.out.trans (hom_4 ho))
      obtain ⟨m, q, y, rfl, rfl, rfl, hg, hy⟩ := om_nat ho
      rw [L_good hg] at hy
      rw [atP_ok hg hy]
      have r0 := wr_k E2.out.wr
      have hyb := lv_bd hg
      obtain ⟨s, hs⟩ : ∃ s, s = y / m := ⟨_, rfl⟩
      obtain ⟨t, ht⟩ : ∃ t, t = y % m := ⟨_, rfl⟩
      have hs1 : s ≤ y := by rw [hs]; exact Nat.div_le_self _ _
      rw [Int.toNat_natCast, Int.toNat_natCast, ← hs, ← ht] at HR
      rw [← hs, ← ht]
      unfold v3
      clear hs ht ho hg
      go_wp2_with ((with_reducible apply ldR (cs := #[Value.int .i64 m, .int .i64 q]) (tGe _ _)); rfl; exact E2.out.geo.whole)
      refine (place_any m q 4 s (by omega) _).mono ?_
      rintro e w3 ⟨rfl, h3⟩
      have E3 := hid (E2.out.on h3)
      clear h3 E2 r0
      cases hp : pl m q 4 s with
      | none =>
        unfold plV
        go_wp2_with ((with_reducible apply stR (tHo 0 0 0)); rfl; rfl; exact E3.out.ho; rfl; exact ho_one _ _ _)
        refine ret_rowM (tHo 0 0 0) rfl rfl rfl rfl (E3.out.ho.setRow_same _) ?_
        exact ⟨by rw [HR.out, hp]; rfl, below_setRow E3.out.bel E3.out.lo _⟩
      | some p =>
        unfold plV
        go_wp2_with ((with_reducible apply stR (tHo t 1 p)); rfl; rfl; exact E3.out.ho; rfl; exact ho_one _ _ _)
        refine ret_rowM (tHo t 1 p) rfl rfl rfl rfl (E3.out.ho.setRow_same _) ?_
        exact ⟨by rw [HR.out, hp]; rfl, below_setRow E3.out.bel E3.out.lo _⟩
    · rw [atP_no ho]
      have HR := hid (HR.out.trans (hom_4n ho))
      unfold v3
      clear ho
      go_wp2_with ((with_reducible apply stR (tHo 0 0 0)); rfl; rfl; exact E2.out.ho; rfl; exact ho_one _ _ _)
      refine ret_rowM (tHo 0 0 0) rfl rfl rfl rfl (E2.out.ho.setRow_same _) ?_
      exact ⟨by rw [HR.out]; rfl, below_setRow E2.out.bel E2.out.lo _⟩
  · have HR := hid (HR.out.trans (hom_o k1 k3 k4))
    have j1 : (k == 1) = false := by simp [k1]
    have j3 : (k == 3) = false := by simp [k3]
    have j4 : (k == 4) = false := by simp [k4]
    go_wp2_with ((with_reducible apply stR (tHo 0 0 0)); rfl; rfl; exact E1.out.ho; rfl; exact ho_one _ _ _)
    refine ret_rowM (tHo 0 0 0) rfl rfl rfl rfl (E1.out.ho.setRow_same _) ?_
    exact ⟨by rw [HR.out]; rfl, below_setRow E1.out.bel E1.out.lo _⟩
end MiM
end Go.Proofs.Ytijgbbeplojinaa
set_option maxRecDepth 100000
namespace Go.Proofs.Ytijgbbeplojinaa
open Go.ChangeShapes Go.WideShapes Go.ChangeAt Go.RowKit
namespace StM
/-- What the loop may turn: the box of what is collected, and what is new. -/
def Tl (hl B : Nat) (k : Nat) : Prop := k = hl ∨ B ≤ k
theorem row_low {W : World} {B B' : Nat} {e : TypeId} {size : Nat} {v : Value} {k : Nat} {xs : List Value} (h : W.ownsRow B e size v k xs) (hB : B' ≤ B) : W.ownsRow B' e size v k xs :=
  ⟨h.1, h.2.imp id fun ⟨g, cap, cur, hv, hg, rest⟩ => ⟨g, cap, cur, hv, Nat.le_trans hB hg, rest⟩⟩
/-- An append to what a box holds, where the box lies ahead of the loop, and the row behind. -/
theorem box_app {W w1 : World} {n₀ B : Nat} {t e : TypeId} {size : Nat} {v v' : Value} {k m : Nat} {xs ys : List Value} {tmp : Obj} {T : Nat → Prop}
    (hv : Boxed W B t v) (hte : t ≠ e) (hrow : W.ownsRow n₀ e size v k xs) (hn₀ : n₀ ≤ W.heap.size) (hB : T B) (hT : ∀ k, n₀ ≤ k → T k)
    (hown' : w1.ownsRow n₀ e size v' m ys) (hgrow : (W.alloc tmp).grownBy w1 v.ownBlock) :
    Boxed w1 B t v ∧ Boxed (w1.setCell ⟨B, 0, none⟩ v') B t v' ∧ (w1.setCell ⟨B, 0, none⟩ v').ownsRow n₀ e size v' m ys ∧ KeepsOthers W (w1.setCell ⟨B, 0, none⟩ v') ∧ Turn T W (w1.setCell ⟨B, 0, none⟩ v') := by
  obtain ⟨h1, h2, _, h4, _⟩ := hv.appended hte (row_low hrow (Nat.zero_le _)) (Nat.zero_le _) (Nat.zero_le _) (row_low hown' (Nat.zero_le _)) hgrow
  refine ⟨h1, h2, hown'.kept (grownBy_setCell' w1 B v') (.inr (h1.not_row hte hown').symm), h4, ?_⟩
  refine ((Turn.alloc (S := T) W tmp).trans (Turn.of_grown (S := T) hgrow fun j ej => hT j ?_) fun _ e => .inl e).trans (Turn.setCell (S := T) w1 ⟨B, 0, none⟩ v' hB) fun _ e => .inl e
  rcases hrow.2 with ⟨rfl, _⟩ | ⟨g, cap, cur, rfl, hb, _, _⟩
  · simp [Value.ownBlock] at ej
  · obtain rfl : g = j := by simpa [Value.ownBlock] using ej
    exact hb
theorem infoI : (Try.prog.info? 3).map (fun i => (i.zero, i.size, i.bytes)) = some (some (.int .i64 0), 1, 8) := by kernel_rfl
end StM
end Go.Proofs.Ytijgbbeplojinaa
set_option maxRecDepth 100000
namespace Go.Proofs.Ytijgbbeplojinaa
open Go.ChangeShapes Go.WideShapes Go.ChangeAt Go.RowKit
namespace RgM
open StM
/-- The loop's own blocks. -/
def Bk (B k : Nat) : Prop := k = B ∨ k = B + 1
/-- How the body of a round may be left. -/
def post {α : Type} (T : Nat → Prop) (I : List α → World → Prop) (Ix : Code → List α → World → Prop) (xs : List α) (W : World) : Exit → Act → World → Prop
  | .normal, _, W' => Turn T W W' ∧ I xs W'
  | .ret, _, W' => Turn T W W' ∧ Ix .ret xs W'
  | .exit id, _, W' => Turn T W W' ∧ Ix (.exit id) xs W'
  | .goto t, _, W' => Turn T W W' ∧ Ix (.goto t) xs W'
  | .panic _, _, _ => False
  | .outgrown, _, _ => False
section
variable {F : Fence} {n : Nat} {P : Program} {α : Type}
/-- What the function that is gone through keeps its word on: each yield is a round; S, if it goes on to the end; Sp, if it was left. -/
def Seq (F : Fence) (n : Nat) (P : Program) (gf : Nat) (lb : Array Value) (encs : α → Array Value) (T : Nat → Prop) (S Sp : List α → Prop) (N B : Nat) (w : World) : Prop :=
  ∀ (J Jx : List α → World → Prop) (W : World), Below B w W →
    (∀ pre x W1, J pre W1 → pre.length < N → YieldAt F (n - 1) P (B + 1) (encs x) W1 fun e W' => (e = .returned (.bool true) ∧ J (pre ++ [x]) W' ∧ Turn (fun k => T k ∨ Bk B k) W1 W') ∨ (e = .returned (.bool false) ∧ Jx (pre ++ [x]) W')) →
    J [] W → CallsIn F n P gf (#[.func (.yield (B + 1)) #[] #[]] ++ lb) W fun e W' => (∃ v, e = .returned v) ∧ ((∃ xs, S xs ∧ J xs W') ∨ (∃ pre, Sp pre ∧ Jx pre W'))
theorem turn_put {T : Nat → Prop} (W : World) (l : Nat) (o' : Obj) (hl : T l) : Turn T W (W.putObj l o') := Turn.of_grown (grownBy_putObj' W l o') fun k e => by cases e; exact hl
theorem wpIn_range {g : Operand} {ps : Array Tmp} {assign body : Code} {Q : Exit → Act → World → Prop} {a : Act} {w : World}
    (hro : F.round = none) (h1 : 1 ≤ n) {gf : Nat} {lb : Array Value} (hg : a.eval g = .func (.func gf) #[] lb) (hFg : F.fn gf) (eg : ∀ args w, (callFunc gf args).run P w = .ok (.enter gf args) w)
    {encs : α → Array Value} {T : Nat → Prop} {S Sp : List α → Prop} {N : Nat} (hseq : Seq F (n - 1) P gf lb encs T S Sp N w.heap.size w) (hT : ∀ k, T k → ¬ Bk w.heap.size k) (hps : ∀ x, (encs x).size = ps.size)
    (I : List α → World → Prop) (Ix : Code → List α → World → Prop) (hI : ∀ s X Y, I s X → Turn (Bk w.heap.size) X Y → I s Y) (hIx : ∀ c s X Y, Ix c s X → Turn (Bk w.heap.size) X Y → Ix c s Y) (h0 : I [] w) (a₁ : α → Act)
    (hassign : ∀ (l : Nat) (x : α) (W : World) (K : Act → World → Prop), K (a₁ x) W →
      assign.wpIn (F.inRound l) (n - 1 - 1) P (Exit.then K (fun _ _ _ => False)) { tmps := (ps.zip (encs x)).foldl (fun t (p, v) => t.setIfInBounds p v) a.tmps, defers := [] } W)
    (hbody : ∀ (l : Nat) (pre : List α) (x : α) (W : World), I pre W → pre.length < N → w.heap.size + 2 ≤ W.heap.size → body.wpIn (F.inRound l) (n - 1 - 1) P (post T I Ix (pre ++ [x]) W) (a₁ x) W)
    (hdone : ∀ (D : Nat) (xs : List α) (W : World), w.heap.size ≤ D → S xs → I xs W → W.heap[D]? = some (.deferred (some [])) → Q .normal { a with defers := { target := .collected D, args := #[] } :: a.defers } W)
    (hstop : ∀ (D : Nat) (c : Code) (pre : List α) (W : World), w.heap.size ≤ D → Sp pre → Ix c pre W → W.heap[D]? = some (.deferred (some [])) → c.wpIn F n P Q { a with defers := { target := .collected D, args := #[] } :: a.defers } W) :
    (Code.rangeFunc g ps assign body).wpIn F n P Q a w := by
  refine wpIn_rangeFunc ?_
  intro fn hfn
  rw [hro]
  obtain ⟨rec, hrec⟩ : ∃ rec : LoopState → Option Code → Loop, rec = fun st pe => { state := st, pending := pe, fn, tmps := a.tmps, params := ps, assign, body, defers := w.heap.size } := ⟨_, rfl⟩
  obtain ⟨W1, hW1⟩ : ∃ W1, (w.alloc (.deferred (some []))).alloc (.loop (rec .ready none)) = W1 := ⟨_, rfl⟩
  have hL1 : W1.heap[w.heap.size + 1]? = some (.loop (rec .ready none)) := by
    rw [← hW1]; have := World.alloc_heap_new (w.alloc (.deferred (some []))) (.loop (rec .ready none)); rwa [World.size_alloc] at this
  have hK1 : W1.heap[w.heap.size]? = some (.deferred (some [])) := by
    rw [← hW1]; exact (Below.heap_alloc _ _ _ (by simp)).trans (World.alloc_heap_new w _)
  have hb1 : Below w.heap.size w W1 := by
    rw [← hW1]; exact ((Below.refl _ w).alloc (Nat.le_refl _) _).alloc (by simp) _
  have hI1 : I [] W1 := hI _ _ _ h0 (Turn.of_new hb1)
  refine ⟨w.heap.size + 1, [{ target := .collected w.heap.size, args := #[] }], W1, { target := .fn (.func gf) lb, args := #[.func (.yield (w.heap.size + 1)) #[] #[]] }, W1, gf,
    #[.func (.yield (w.heap.size + 1)) #[] #[]] ++ lb, W1, ?_, ?_, ?_, ?_, fun _ => h1, ?_⟩
  · rw [← hW1, hrec]; exact run_enterLoop_outer _ _ _ _ _
  · simp only [resolve, hg]
    simp [go_sem]
  · intro f' hf'; simp [Target.leads] at hf'; subst hf'; exact hFg
  · simp [invoke, go_sem, eg]
  · refine (hseq
      (fun pre W => I pre W ∧ W.heap[w.heap.size + 1]? = some (.loop (rec .ready none)) ∧ W.heap[w.heap.size]? = some (.deferred (some [])))
      (fun pre W => ∃ c, Ix c pre W ∧ W.heap[w.heap.size + 1]? = some (.loop (rec .done (some c))) ∧ W.heap[w.heap.size]? = some (.deferred (some [])))
      W1 hb1 ?_ ⟨hI1, hL1, hK1⟩).mono ?_
    · rintro pre x W ⟨hi, hl, hk⟩ hlen
      have hlt : w.heap.size + 1 < W.heap.size := (Array.getElem?_eq_some_iff.1 hl).1
      have hy := run_yield (P := P) (args := encs x) hl (by rw [hrec]; exact hps x)
      rw [hrec] at hy
      refine ⟨fn, _, assign, body, hy, roundIn_of_wpIn hfn (hassign _ x W _ ⟨_, run_beginRound hl (by rw [hrec]), ?_⟩)⟩
      have hl2 : (W.putObj (w.heap.size + 1) (.loop { rec .ready none with state := .busy })).heap[w.heap.size + 1]? = some (.loop { rec .ready none with state := .busy }) := World.putObj_heap_same hlt
      have hk2 : (W.putObj (w.heap.size + 1) (.loop { rec .ready none with state := .busy })).heap[w.heap.size]? = some (.deferred (some [])) := (World.putObj_heap_other (by omega)).trans hk
      have hw2 : Turn (Bk w.heap.size) W (W.putObj (w.heap.size + 1) (.loop { rec .ready none with state := .busy })) := turn_put _ _ _ (.inr rfl)
      have hs2 := hw2.size
      refine wpIn_mono (hbody _ pre x _ (hI _ _ _ hi hw2) hlen (Nat.le_trans hlt hs2)) ?_
      have fin : ∀ (jump : Option Code) (W3 : World), Turn T (W.putObj (w.heap.size + 1) (.loop { rec .ready none with state := .busy })) W3 →
          (Instr.endRound (w.heap.size + 1) jump).run P W3 = .ok (.bool jump.isNone) (W3.putObj (w.heap.size + 1) (.loop (rec (if jump.isNone then .ready else .done) jump))) ∧
          (W3.putObj (w.heap.size + 1) (.loop (rec (if jump.isNone then .ready else .done) jump))).heap[w.heap.size + 1]? = some (.loop (rec (if jump.isNone then .ready else .done) jump)) ∧
          (W3.putObj (w.heap.size + 1) (.loop (rec (if jump.isNone then .ready else .done) jump))).heap[w.heap.size]? = some (.deferred (some [])) ∧
          Turn (Bk w.heap.size) W3 (W3.putObj (w.heap.size + 1) (.loop (rec (if jump.isNone then .ready else .done) jump))) := fun jump W3 hk3 => by
        have hl3 := (hk3.block (w.heap.size + 1) (Nat.lt_of_lt_of_le hlt hs2) (fun e => hT _ e (.inr rfl))).trans hl2
        have hk4 := (hk3.block w.heap.size (Nat.lt_of_lt_of_le (Nat.lt_of_succ_lt hlt) hs2) (fun e => hT _ e (.inl rfl))).trans hk2
        have := run_endRound (P := P) jump hl3
        rw [hrec] at this ⊢
        exact ⟨this, World.putObj_heap_same (Array.getElem?_eq_some_iff.1 hl3).1, (World.putObj_heap_other (by omega)).trans hk4, turn_put _ _ _ (.inr rfl)⟩
      rintro e a3 W3 hp
      cases e with
      | normal =>
        obtain ⟨hkp3, hi3⟩ := hp
        obtain ⟨hr, hl4, hk4, ht4⟩ := fin none W3 hkp3
        exact ⟨_, _, hr, .inl ⟨rfl, ⟨hI _ _ _ hi3 ht4, hl4, hk4⟩, ((hw2.mono fun k e => .inr e).trans (hkp3.mono (T := fun k => T k ∨ Bk w.heap.size k) fun k e => .inl e) fun k e => .inl e).trans (ht4.mono (T := fun k => T k ∨ Bk w.heap.size k) fun k e => .inr e) fun k e => .inl e⟩⟩
      | ret =>
        obtain ⟨hk3, hi3⟩ := hp
        obtain ⟨hr, hl4, hk4, ht4⟩ := fin (some .ret) W3 hk3
        exact ⟨_, _, hr, .inr ⟨rfl, .ret, hIx _ _ _ _ hi3 ht4, hl4, hk4⟩⟩
      | exit id =>
        obtain ⟨hk3, hi3⟩ := hp
        obtain ⟨hr, hl4, hk4, ht4⟩ := fin (some (.exit id)) W3 hk3
        exact ⟨_, _, hr, .inr ⟨rfl, .exit id, hIx _ _ _ _ hi3 ht4, hl4, hk4⟩⟩
      | goto t =>
        obtain ⟨hk3, hi3⟩ := hp
        obtain ⟨hr, hl4, hk4, ht4⟩ := fin (some (.goto t)) W3 hk3
        exact ⟨_, _, hr, .inr ⟨rfl, .goto t, hIx _ _ _ _ hi3 ht4, hl4, hk4⟩⟩
      | panic ch => exact hp.elim
      | outgrown => exact hp.elim
    · rintro e W2 ⟨⟨v, rfl⟩, (⟨xs, hS, hi, hl, hk⟩ | ⟨pre, hSp, c, hi, hl, hk⟩)⟩
      · exact ⟨none, _, by have := run_endLoop (P := P) hl (by rw [hrec]; simp); rw [hrec] at this; exact this, hdone _ xs _ (Nat.le_refl _) hS (hI _ _ _ hi (turn_put _ _ _ (.inr rfl))) ((World.putObj_heap_other (by omega)).trans hk)⟩
      · exact ⟨some c, _, by have := run_endLoop (P := P) hl (by rw [hrec]; simp); rw [hrec] at this; exact this, hstop _ c pre _ (Nat.le_refl _) hSp (hIx c _ _ _ hi (turn_put _ _ _ (.inr rfl))) ((World.putObj_heap_other (by omega)).trans hk)⟩
end
theorem row_turn {S : Nat → Prop} {X Y : World} {e : TypeId} {B size m : Nat} {v : Value} {xs : List Value} (h : X.ownsRow B e size v m xs) (ht : Turn S X Y) (hd : ∀ b, v.ownBlock = some b → ¬ S b) : Y.ownsRow B e size v m xs := by
  refine ⟨h.1, ?_⟩
  rcases h.2 with hn | ⟨g, cap, cur, rfl, hB, hg, rest⟩
  · exact .inl hn
  · exact .inr ⟨g, cap, cur, rfl, hB, (ht.block g (Array.getElem?_eq_some_iff.1 hg).1 (hd g rfl)).trans hg, rest⟩
theorem row_from {X Y : World} {e : TypeId} {B C size m : Nat} {v : Value} {xs : List Value} (h : X.ownsRow B e size v m xs) (ht : Turn (Bk C) X Y) (hB : C + 2 ≤ B) : Y.ownsRow B e size v m xs :=
  row_turn h ht fun b e1 e2 => by have := (World.ownsRow.lt h b e1).1; unfold Bk at e2; omega
end RgM
end Go.Proofs.Ytijgbbeplojinaa
set_option maxRecDepth 100000
namespace Go.Proofs.Ytijgbbeplojinaa
open Go.ChangeShapes Go.WideShapes Go.ChangeAt Go.RowKit
attribute [local go_sem] Gives
/-! ### A list of ints of the call's own -/
def OwnI (w : World) (B : Nat) (v : Value) (G : List Nat) : Prop := w.ownsRow B 3 1 v G.length (G.map fun j : Nat => Value.int .i64 j)
theorem parts_int : ∃ (i : TypeInfo) (z : Value), Try.prog.info? 3 = some i ∧ i.zero = some z ∧ i.size = 1 ∧ i.bytes = 8 ∧ z.cells.size = 1 := by
  have hi : ∃ ie, Try.prog.info? 3 = some ie := ⟨_, rfl⟩
  obtain ⟨i, hi⟩ := hi
  have h1 : (Try.prog.info? 3).map (·.size) = some 1 := by kernel_rfl
  have h2 : (Try.prog.info? 3).map (·.bytes) = some 8 := by kernel_rfl
  have h3 : ((Try.prog.info? 3).bind (·.zero)).map (·.cells.size) = some 1 := by kernel_rfl
  rw [hi] at h1 h2 h3
  simp only [Option.map_some, Option.some.injEq, Option.bind_some] at h1 h2 h3
  cases hz : i.zero with
  | none => rw [hz] at h3; cases h3
  | some z => rw [hz] at h3; exact ⟨i, z, hi, hz, h1, h2, by simpa using h3⟩
theorem OwnI.down {w : World} {B B' : Nat} {v : Value} {G : List Nat} (h : OwnI w B v G) (hB : B' ≤ B) : OwnI w B' v G :=
  ⟨h.1, h.2.imp id fun ⟨g, cap, cur, hv, hb, hr⟩ => ⟨g, cap, cur, hv, Nat.le_trans hB hb, hr⟩⟩
theorem OwnI.lt {w : World} {B : Nat} {v : Value} {G : List Nat} (h : OwnI w B v G) : ∀ k, v.ownBlock = some k → B ≤ k ∧ k < w.heap.size := World.ownsRow.lt h
theorem OwnI.only {w w' : World} {B g : Nat} {v : Value} {G : List Nat} (h : OwnI w B v G) (ho : w.grownBy w' (some g)) (hg : g < B) : OwnI w' B v G :=
  World.ownsRow.kept h ho (by
    cases e : v.ownBlock with
    | none => exact .inl rfl
    | some k => exact .inr (fun e2 => by injection e2 with e2; have := (h.lt k e).1; omega))
theorem OwnI.below {w w' : World} {B k : Nat} {v : Value} {G : List Nat} (h : OwnI w B v G) (hb : Below k w w') (hk : w.heap.size ≤ k) : OwnI w' B v G :=
  World.ownsRow.kept (row := none) h ⟨hb.os, hb.tape, hb.output, hb.size, fun i hi _ => hb.block i (by omega)⟩ (by
    cases v.ownBlock with
    | none => exact .inl rfl
    | some g => exact .inr (fun e => by cases e))
theorem OwnI.len {w : World} {B : Nat} {v : Value} {G : List Nat} (h : OwnI w B v G) : ∃ A c, v = .slice A G.length c := by
  rcases h.2 with ⟨h1, h2⟩ | ⟨g, cap, cur, h1, _⟩
  · exact ⟨none, 0, by rw [h1, h2]⟩
  · exact ⟨_, _, h1⟩
theorem OwnI.get {w : World} {B j : Nat} {v : Value} {G : List Nat} (h : OwnI w B v G) (hj : j < G.length) : ∃ g c, v = .slice (some ⟨g, 0, none⟩) G.length c ∧ ∀ i, i < G.length → w.cell? ⟨g, i, none⟩ = some (.int .i64 (G.getD i 0 : Nat)) := by
  rcases h.2 with ⟨h1, h2⟩ | ⟨g, cap, cur, h1, _⟩
  · omega
  · refine ⟨g, cap, h1, fun i hi => ?_⟩
    have := World.ownsRow.cellAt (h1 ▸ h : w.ownsRow B 3 1 (.slice (some ⟨g, 0, none⟩) G.length cap) G.length _) i (by omega)
    rw [this, List.getElem?_map, List.getElem?_eq_getElem hi]
    simp [List.getD, hi]
theorem OwnI.cell {w : World} {B gg n c i : Nat} {G : List Nat} (h : OwnI w B (.slice (some ⟨gg, 0, none⟩) n c) G) (hi : i < G.length) : w.cell? ⟨gg, i, none⟩ = some (.int .i64 (G.getD i 0 : Nat)) := by
  obtain ⟨g', c', e, hr⟩ := h.get hi
  simp only [Value.slice.injEq, Option.some.injEq, Addr.mk.injEq, and_true, true_and] at e
  obtain ⟨rfl, _, _⟩ := e
  exact hr i hi
section
variable {ops : Array Oper} {Q : Exit → Act → World → Prop} {a : Act} {w : World} {rest : List Oper} {dst : Option Tmp} {ty : TypeId} {pos : String} {after : Array Edge} {s x : Operand} {c B : Nat} {v : Value} {G : List Nat}
/-- One int more. -/
theorem wappi {b y : Nat} (hs : a.eval s = v) (hx : a.eval x = .slice (some ⟨b, 0, none⟩) 1 c) (hown : OwnI w B v G) (hc : w.cell? ⟨b, 0, none⟩ = some (.int .i64 y)) (hsz : G.length ≤ 1000) (hB : B ≤ w.heap.size)
    (h : ∀ v' w', OwnI w' B v' (G ++ [y]) → w.grownBy w' v.ownBlock → wpList Try.prog ops Q rest (a.put dst v') w') :
    wpList Try.prog ops Q (⟨dst, .call { callee := .builtin .append, args := #[s, x], argTypes := #[28, 28] }, ty, pos, after, none⟩ :: rest) a w := by
  obtain ⟨i, z, hi, hz, h1, h2, h3⟩ := parts_int
  refine wpList_append_own w rfl s x 28 rfl B 3 i z 1 8 Try.underlying28 hi hz h1 h2 h3 (by omega) v G.length _ hs hown ⟨b, 0, none⟩ 1 c [.int .i64 y] hx rfl ?_ (fun u hu => by simp at hu; subst hu; rfl)
    (by unfold maxLen; omega) (by omega) hB ?_
  · intro j u hj
    match j, hj with
    | 0, hj =>
      simp at hj
      subst hj
      simpa [Addr.add] using hc
  · intro v' w' h4 h5 _
    refine h v' w' ?_ h5
    unfold OwnI
    rw [List.length_append, List.map_append]
    exact h4
end
end Go.Proofs.Ytijgbbeplojinaa
set_option maxRecDepth 100000
namespace Go.Proofs.Ytijgbbeplojinaa
open Go.ChangeShapes Go.WideShapes Go.ChangeAt Go.RowKit
namespace MiM
def natL (n : Nat) : List Value := [.int .i64 (n : Nat)]
theorem eltNat : EltX 3 1 natL where
  pos := by omega
  len := fun _ => rfl
  one p u hu := by
    simp only [natL, List.mem_cons, List.not_mem_nil, or_false] at hu
    rw [hu]; rfl
  info := elt_info (by kernel_rfl) (by kernel_rfl) (by kernel_rfl)
theorem undNat : Try.prog.underlying 28 = some (.slice 3) := Try.underlying28
theorem natL_flat : ∀ l : List Nat, l.flatMap natL = l.map fun j : Nat => Value.int .i64 j
  | [] => rfl
  | x :: l => by rw [List.flatMap_cons, natL_flat l, List.map_cons]; rfl
theorem ownX_I {w : World} {B : Nat} {v : Value} {l : List Nat} : OwnX 3 1 natL w B v l ↔ OwnI w B v l := by
  unfold OwnX OwnI
  rw [natL_flat]
/-- A literal of ints. -/
theorem own_nats (l : List Nat) (w : World) {B : Nat} (hB : B ≤ w.heap.size) (hl : l.length ≤ maxLen) : OwnI (w.alloc (.cells (l.map fun j : Nat => Value.int .i64 j).toArray 3)) B (.slice (some ⟨w.heap.size, 0, none⟩) l.length l.length) l :=
  ⟨by simp, .inr ⟨w.heap.size, l.length, (l.map fun j : Nat => Value.int .i64 j).toArray, rfl, hB, Blk.new _ _ _, Nat.le_refl _, hl, by simp, List.take_of_length_le (by simp)⟩⟩
end MiM
end Go.Proofs.Ytijgbbeplojinaa
set_option maxRecDepth 100000
namespace Go.Proofs.Ytijgbbeplojinaa
open Go.ChangeShapes Go.WideShapes Go.ChangeAt Go.RowKit Go.Shelf
attribute [local go_sem] Gives
attribute [local go_sem] Oper.semAt_some
namespace MiM
open GeM StM RgM
theorem around_any (f n p : Nat) (m : Int) (w : World) : Calls Try.prog 50 #[.agg (hoL f n p), .int .i64 m] w fun e w' =>
    e = .returned (.func (.func 88) #[] #[.pointer (some ⟨w.heap.size, 0, none⟩), .pointer (some ⟨w.heap.size + 1, 0, none⟩)]) ∧ Below w.heap.size w w' ∧ Blk w' w.heap.size tyH (hoL f n p) ∧ Blk w' (w.heap.size + 1) 3 #[.int .i64 m] ∧ w'.heap.size = w.heap.size + 2 := by
  have B := hid (show Below w.heap.size w ((w.alloc (.cells (hoL f n p) tyH)).alloc (.cells #[.int .i64 m] 3)) from ((Below.refl _ _).alloc (Nat.le_refl _) _).alloc (by simp) _)
  have K1 := hid (show Blk ((w.alloc (.cells (hoL f n p) tyH)).alloc (.cells #[.int .i64 m] 3)) w.heap.size tyH (hoL f n p) from (Blk.new _ _ _).alloc _)
  have K2 := hid (show Blk ((w.alloc (.cells (hoL f n p) tyH)).alloc (.cells #[.int .i64 m] 3)) (w.heap.size + 1) 3 #[.int .i64 m] from Blk.top rfl (by simp))
  go_enter Try.func50, Try.ntmps50
  go_wp2_with fail
  refine bodyPost_ret (results_tmp (t := 4) rfl _ _ _) rfl ?_
  exact ⟨rfl, B.out, K1.out, K2.out, by simp⟩
theorem ownI_nil (w : World) (B : Nat) : OwnI w B (.slice none 0 0) [] := World.ownsRow_nil _ _ _ _
theorem ho_0 {w : World} {g f n p : Nat} (h : Blk w g tyH (hoL f n p)) : w.cell? ⟨g, 0, none⟩ = some (.int .i64 (f : Nat)) := h.cell 0
theorem ho_1 {w : World} {g f n p : Nat} (h : Blk w g tyH (hoL f n p)) : w.cell? ⟨g, 1, none⟩ = some (.int .i64 (n : Nat)) := h.cell 1
set_option maxRecDepth 100000 in
set_option maxHeartbeats 1000000 in
theorem around1_in (f n p m bH bM B : Nat) (hm : 0 < m) (hm64 : m ≤ 64) (hn : n ≤ 64) (hf : f ≤ 8192) (T : Nat → Prop) (w1 : World)
    (q1 : Blk w1 bH tyH (hoL f n p)) (q2 : w1.cell? ⟨bM, 0, none⟩ = some (.int .i64 (m : Nat))) (d1 : ¬ T bH) (d2 : ¬ T bM) (l1 : bH < B) (l2 : bM < B) :
    RgM.Seq Fence.wide 6 Try.prog 88 #[.pointer (some ⟨bH, 0, none⟩), .pointer (some ⟨bM, 0, none⟩)] (fun x : Nat => #[Value.int .i64 x]) T (fun ys => ys = rnd m f n) (fun pre => pre = (rnd m f n).take pre.length ∧ pre.length ≤ n) n B w1 := by
  intro J Jx W hB hY h0
  have Q1 := hid (q1.turn (Turn.of_below hB) (by omega))
  have Q2 := hid ((Turn.of_below hB).cell q2 (by show ¬ B ≤ bM; omega))
  have HY := hid hY
  have H0 := hid h0
  have D1 : ¬ (T bH ∨ Bk B bH) := fun e => e.elim d1 fun e => by unfold Bk at e; omega
  have D2 : ¬ (T bM ∨ Bk B bM) := fun e => e.elim d2 fun e => by unfold Bk at e; omega
  have E1 := hid D1
  have E2 := hid D2
  clear hY h0 q1 q2 hB d1 d2 D1 D2
  refine callsIn_of_wp Try.func88 rfl trivial ?_ rfl
  simp only [Try.ntmps88, List.size_toArray, List.length_cons, List.length_nil, Nat.reduceAdd, Nat.reduceSub, Array.replicate_succ, Array.replicate_zero, List.push_toArray, List.append_toArray, List.nil_append, List.cons_append]
  have r1 := ho_1 Q1.out
  gi_wp2
  gi_loopw [7] (fun u wr => ∃ i : Nat, i ≤ n ∧ u = .int .i64 (i : Nat) ∧ Hid (J (rnd m f i) wr) ∧ Hid (Turn (fun k => T k ∨ Bk B k) W wr)) (fun u _ => n - (intOf u).toNat)
  case atStart => exact ⟨0, Nat.zero_le _, rfl, H0, hid (Turn.refl _ _)⟩
  case round =>
    clear r1
    obtain ⟨i, hi, rfl, HJ, HT⟩ := hrel
    by_cases hgo : i < n
    · have t1 : (i : Int) < (n : Int) := by omega
      have s0 := HT.out.cell (ho_0 Q1.out) E1.out
      have s1 := HT.out.cell Q2.out E2.out
      have hm0 : (m : Int) ≠ 0 := by omega
      obtain ⟨x, hx⟩ : ∃ x, x = (f + i) % m := ⟨_, rfl⟩
      have e2 : ((f : Int) + (i : Int)) % (m : Int) = (x : Int) := by rw [hx]; push_cast; rfl
      have HX := hid hx
      have hxm : x < m := by rw [hx]; exact Nat.mod_lt _ hm
      clear hx
      obtain ⟨fn, tmps, assign, body, hy, hR⟩ := HY.out (rnd m f i) x wr HJ.out (by rw [rnd_length]; exact hgo)
      gi_wp2
      refine hR.mono ?_
      rintro e w3 (⟨rfl, hJ3, hk3⟩ | ⟨rfl, hJx3⟩)
      · have hT3 := hid (HT.out.trans hk3 fun _ e => .inl e)
        have HJ3 := hid hJ3
        clear hJ3 hk3 HJ HT hR hy e2
        gi_wp2
        go_roundw
        case rel => exact ⟨i + 1, by omega, by go_num, by rw [rnd_succ, ← HX.out]; exact HJ3, hT3⟩
        case measure => simp [intOf] <;> omega
      · have HJ3 := hid hJx3
        clear hJx3 HJ HT hR hy e2
        gi_wp2
        refine bodyPost_ret (results_none rfl _ _ _) rfl ?_
        refine ⟨⟨_, rfl⟩, .inr ⟨rnd m f i ++ [x], ⟨?_, ?_⟩, HJ3.out⟩⟩
        · rw [List.length_append, rnd_length, List.length_singleton, rnd_take (by omega), rnd_succ, ← HX.out]
        · rw [List.length_append, rnd_length, List.length_singleton]; omega
    · have t1 : ¬ (i : Int) < (n : Int) := by omega
      have ein : i = n := by omega
      gi_wp2
      go_end0
      exact ⟨⟨_, rfl⟩, .inl (ein ▸ HJ.out)⟩
/-- What the loop that collects may turn. -/
def Tl2 (hl B k : Nat) : Prop := k = hl ∨ B + 2 ≤ k
set_option maxRecDepth 100000 in
set_option maxHeartbeats 2000000 in
theorem appseq19_any (f n p m bH bM : Nat) (hm : 0 < m) (hm64 : m ≤ 64) (hn : n ≤ 64) (hf : f ≤ 8192) (w : World) (q1 : Blk w bH tyH (hoL f n p)) (q2 : Blk w bM 3 #[.int .i64 (m : Nat)]) :
    Calls Try.prog 87 #[.slice none 0 0, .func (.func 88) #[] #[.pointer (some ⟨bH, 0, none⟩), .pointer (some ⟨bM, 0, none⟩)]] w fun e w' => ∃ v, e = .returned v ∧ OwnI w' w.heap.size v (rnd m f n) ∧ Below w.heap.size w w' := by
  refine (callsIn_wide (n := 7)).1 ?_
  obtain ⟨i0, hi, hz0, hz1, hz2⟩ := info_parts infoI
  have lH := q1.lt
  have lM := q2.lt
  refine callsIn_of_wp_marks Try.func87 rfl trivial ?_ rfl
  simp only [Try.ntmps87, List.size_toArray, List.length_cons, List.length_nil, Nat.reduceAdd, Nat.reduceSub, Array.replicate_succ, Array.replicate_zero, List.push_toArray, List.append_toArray, List.nil_append, List.cons_append]
  obtain ⟨w3, hw3⟩ : ∃ w3, w3 = w.alloc (.cells #[.slice none 0 0] 28) := ⟨_, rfl⟩
  have hsz : w3.heap.size = w.heap.size + 1 := by rw [hw3]; simp
  have B0 : Below w.heap.size w w3 := by rw [hw3]; exact (Below.refl _ w).alloc (Nat.le_refl _) _
  have bL : Boxed w3 w.heap.size 28 (.slice none 0 0) := by rw [hw3]; exact Boxed.new w _ _
  have r1 := q1.below B0 lH
  have r2 := (q2.below B0 lM).cell 0
  have hT : ∀ k, (Tl2 w.heap.size w3.heap.size k ∨ Bk w3.heap.size k) → w.heap.size ≤ k := fun k e => by unfold Tl2 Bk at e; omega
  have HB := hid (show ∀ W, Turn (fun k => Tl2 w.heap.size w3.heap.size k ∨ Bk w3.heap.size k) w3 W → Below w.heap.size w W from fun W h => B0.trans (h.below (by omega) hT))
  gi_wp2
  rw [← hw3]
  clear hw3 q1 q2
  refine wpIn_range (α := Nat) rfl (by omega) (gf := 88) (lb := #[.pointer (some ⟨bH, 0, none⟩), .pointer (some ⟨bM, 0, none⟩)]) rfl trivial (enters_of Try.func88 (by kernel_rfl) rfl)
    (encs := fun x : Nat => #[Value.int .i64 x]) (T := Tl2 w.heap.size w3.heap.size) (S := fun ys => ys = rnd m f n) (Sp := fun pre => pre = (rnd m f n).take pre.length ∧ pre.length ≤ n) (N := n)
    (around1_in f n p m bH bM w3.heap.size hm hm64 hn hf (Tl2 w.heap.size w3.heap.size) w3 r1 r2 (by unfold Tl2; omega) (by unfold Tl2; omega) (by omega) (by omega))
    (fun k e => by unfold Tl2 at e; unfold Bk; omega) (fun _ => rfl)
    (fun pre W => (∃ v, Boxed W w.heap.size 28 v ∧ W.ownsRow (w3.heap.size + 2) 3 1 v pre.length (pre.map fun j : Nat => Value.int .i64 j)) ∧ Turn (fun k => Tl2 w.heap.size w3.heap.size k ∨ Bk w3.heap.size k) w3 W)
    (fun _ _ _ => False)
    (fun s X Y ⟨⟨v, h1, h2⟩, h3⟩ ht => ⟨⟨v, Blk.turn h1 ht (fun e => by unfold Bk at e; omega), row_from h2 ht (Nat.le_refl _)⟩, h3.trans ht fun k e => .inl (.inr e)⟩)
    (fun _ _ _ _ hs _ => hs)
    ⟨⟨_, bL, World.ownsRow_nil _ _ _ _⟩, Turn.refl _ _⟩
    (fun x => { tmps := #[.slice none 0 0, .func (.func 88) #[] #[.pointer (some ⟨bH, 0, none⟩), .pointer (some ⟨bM, 0, none⟩)], .pointer (some ⟨w.heap.size, 0, none⟩), undef, .slice none 0 0, .int .i64 x, .func (.func 88) #[] #[.pointer (some ⟨bH, 0, none⟩), .pointer (some ⟨bM, 0, none⟩)], .int .i64 x, undef, undef, undef, undef, undef], defers := [] }) ?assign ?body ?done ?stop
  case assign =>
    intro l x W K hK
    gi_wp2
    exact hK
  case body =>
    rintro l pre x W ⟨⟨v, hv, hrow⟩, hT2⟩ hlt hW2
    have hc := hv.cell
    have hf := hv.frozen
    have hml : 65 ≤ maxLen := by unfold maxLen; omega
    gi_wp2_with (gi_at_builtin; refine wpListIn_append_own _ rfl _ _ 28 rfl (w3.heap.size + 2) 3 i0 (.int .i64 0) 1 8 Try.underlying28 hi hz0 hz1 hz2 rfl (by decide) _ _ _ rfl (hrow.alloc _) ⟨W.heap.size, 0, none⟩ 1 1 [.int .i64 x] rfl rfl (cell_one_new _ _ _) (by simp [Value.oneCell']) (by omega) (by omega) (by simp; omega) ?_; intro v' w4 hown' hgrow _; obtain ⟨g', cap', rfl⟩ := ownsRow_succ hown'; obtain ⟨hv1, hv2, hr2, hk2, hb2⟩ := box_app (T := Tl2 w.heap.size w3.heap.size) hv (by decide) hrow hW2 (.inl rfl) (fun _ e => .inr e) hown' hgrow; have hc1 := hv1.cell; have hf1 := hv1.frozen)
    exact ⟨hb2, ⟨_, hv2, by simpa using hr2⟩, hT2.trans hb2 fun _ e => .inl (.inl e)⟩
  case done =>
    rintro D ys W hD rfl ⟨⟨v, hv, hrow⟩, hT2⟩ hK
    have hc := hv.cell
    gi_wp2
    refine ⟨by simp, .inl ⟨_, _, rfl, run_takeDeferred hK, ?_⟩⟩
    exact ⟨_, results_tmp rfl _ _ _, v, rfl, row_low (ownsRow_putObj hrow _ hK rfl) (by omega), (HB.out W hT2).trans (belowK_b (w := w) (Nat.le_refl _) W D _ _ (by omega) hK rfl rfl)⟩
  case stop =>
    rintro D c pre W _ _ h _
    exact h.elim
theorem collect19_any (f n p m bH bM : Nat) (hm : 0 < m) (hm64 : m ≤ 64) (hn : n ≤ 64) (hf : f ≤ 8192) (w : World) (q1 : Blk w bH tyH (hoL f n p)) (q2 : Blk w bM 3 #[.int .i64 (m : Nat)]) :
    Calls Try.prog 49 #[.func (.func 88) #[] #[.pointer (some ⟨bH, 0, none⟩), .pointer (some ⟨bM, 0, none⟩)]] w fun e w' => ∃ v, e = .returned v ∧ OwnI w' w.heap.size v (rnd m f n) ∧ Below w.heap.size w w' := by
  have A := hid (appseq19_any f n p m bH bM hm hm64 hn hf w q1 q2)
  clear q1 q2
  go_enter Try.func49, Try.ntmps49
  go_wp2_with fail
  refine A.out.mono ?_
  rintro e w1 ⟨v, rfl, h1, h2⟩
  have H := hid (And.intro h1 h2)
  clear h1 h2
  obtain ⟨A1, c1, rfl⟩ := OwnI.len H.out.1
  go_wp2_with fail
  go_ret
  exact ⟨_, rfl, H.out⟩
set_option maxHeartbeats 1600000 in
/-- Where: the members, in order; none, if it has no place. -/
theorem where_any (a b k i : Int) (x : Nat → Nat) (hi : -9223372036854775808 ≤ i ∧ i ≤ 9223372036854775807) (w : World) : Calls Try.prog 13 #[gv a b, .agg (wrL k i x).toArray] w fun e w' => ∃ v, e = .returned v ∧ OwnI w' w.heap.size v (whL a b k i) ∧ Below w.heap.size w w' := by
  obtain ⟨R, hR⟩ : ∃ R, R = whL a b k i := ⟨_, rfl⟩
  rw [← hR]
  have HR := hid hR
  clear hR
  unfold gv
  go_enter Try.func13, Try.ntmps13
  go_upto_region 1 with fail
  obtain ⟨gg, hgg⟩ : ∃ g, g = w.heap.size := ⟨_, rfl⟩
  obtain ⟨gw, hgw⟩ : ∃ g, g = w.heap.size + 1 := ⟨_, rfl⟩
  rw [← hgw, ← hgg]
  generalize hW : World.alloc (World.alloc w _) _ = w1
  have G1 := hid (show Blk w1 gg tyG #[.int .i64 a, .int .i64 b] by rw [hgg, ← hW]; exact (Blk.new _ _ _).alloc _)
  have W1 := hid (show Blk w1 gw tyW (wrL k i x).toArray by rw [hgw, ← hW]; exact Blk.top rfl (by simp))
  have B1 := hid (show Below w.heap.size w w1 by rw [← hW]; exact ((Below.refl _ _).alloc (Nat.le_refl _) _).alloc (by simp) _)
  clear hgg hgw hW
  go_wp2_with (first | ((with_reducible apply ldR (cs := #[Value.int .i64 a, .int .i64 b]) (tGe _ _)); rfl; exact G1.out.whole) | ((with_reducible apply ldR (cs := (wrL k i x).toArray) (tWr k i x)); rfl; exact W1.out.whole))
  refine (home_any a b k i x hi w1).mono ?_
  rintro e w2 ⟨rfl, h2⟩
  have G2 := hid (G1.out.below h2 G1.out.lt)
  have B2 := hid (B1.out.trans (h2.mono B1.out.size))
  clear h2 G1 W1 B1
  cases hh : hom a b k i with
  | none =>
    have HR := hid (HR.out.trans (whL_nil.2 hh))
    unfold hoV
    go_wp2_with ((with_reducible apply stR (tHo 0 0 0)); rfl; rfl; exact Blk.new _ _ _; rfl; exact ho_one _ _ _)
    go_ret
    exact ⟨_, rfl, by rw [HR.out]; exact ownI_nil _ _, below_setRow (B2.out.alloc B2.out.size _) B2.out.size _⟩
  | some y =>
    obtain ⟨f, n, p⟩ := y
    obtain ⟨m, q, rfl, rfl, hg, hm4, hm64, hn1, hnm, hf, hp⟩ := hom_some hh
    have HR := hid (HR.out.trans (show whL m q k i = rnd m f n by unfold whL; rw [hh]; rfl))
    unfold hoV
    go_upto_region 2 with ((with_reducible apply stR (tHo f n p)); rfl; rfl; exact Blk.new _ _ _; rfl; exact ho_one _ _ _)
    obtain ⟨gh, hgh⟩ : ∃ g, g = w2.heap.size := ⟨_, rfl⟩
    rw [← hgh]
    generalize hW : World.setRow (World.alloc w2 _) _ _ = w3
    have K3 := hid (show Blk w3 gh tyH (hoL f n p) by rw [← hW, hgh]; exact (Blk.new w2 _ _).setRow_same _)
    have b3 : Below w2.heap.size w2 w3 := by rw [← hW, hgh]; exact below_setRow ((Below.refl _ _).alloc (Nat.le_refl _) _) (Nat.le_refl _) _
    have B3 := hid (B2.out.trans (b3.mono B2.out.size))
    have G3 := hid (G2.out.below b3 G2.out.lt)
    have r0 : w3.cell? ⟨gg, 0, none⟩ = some (.int .i64 (m : Nat)) := G3.out.cell 0
    clear hW b3 hgh G2 B2 hh
    go_wp2_with ((with_reducible apply ldR (cs := hoL f n p) (tHo f n p)); rfl; exact K3.out.whole)
    refine (around_any f n p m w3).mono ?_
    rintro e w4 ⟨rfl, h4, k1, k2, _⟩
    have B4 := hid (B3.out.trans (h4.mono B3.out.size))
    have C4 := hid (collect19_any f n p m w3.heap.size (w3.heap.size + 1) (by omega) hm64 (by omega) hf w4 k1 k2)
    clear h4 k1 k2 B3 G3 K3 r0
    go_wp2_with fail
    refine C4.out.mono ?_
    rintro e w5 ⟨v, rfl, h5, b5⟩
    have H := hid (And.intro (OwnI.down h5 B4.out.size) (B4.out.trans (b5.mono B4.out.size)))
    clear h5 b5 B4 C4
    obtain ⟨A1, c1, rfl⟩ := OwnI.len H.out.1
    go_wp2_with fail
    go_ret
    exact ⟨_, rfl, by rw [HR.out]; exact H.out.1, H.out.2⟩
end MiM
end Go.Proofs.Ytijgbbeplojinaa
set_option maxRecDepth 100000
namespace Go.Proofs.Ytijgbbeplojinaa
open Go.ChangeShapes Go.WideShapes Go.ChangeAt Go.RowKit
attribute [local go_sem] Gives
namespace GeM
/-- The region in which p lies, as around tells it: below 1 if it is none. -/
def ar' (a b p : Int) : Int := if p < 0 then -1 else if Good a b ∧ p < L sec a b then rg a b p else -2
/-- The first places as a function. -/
def cv (a b : Int) (k : Nat) : Int := if k = 0 then 0 else (L (st · · k) a b : Nat)
end GeM
end Go.Proofs.Ytijgbbeplojinaa
set_option maxRecDepth 100000
namespace Go.Proofs.Ytijgbbeplojinaa
open Go.ChangeShapes Go.WideShapes Go.ChangeAt Go.RowKit
attribute [local go_sem] Gives
namespace GeM
/-- What What tells. -/
def whV (o : Option (Nat × Nat)) : Value := match o with
  | some q => .tuple #[.int .i64 q.1, .int .i64 q.2, .int .i64 0]
  | none => .tuple #[.int .i64 0, .int .i64 0, .int .i64 2]
theorem wh_none {a b p : Int} (h : ¬ (Good a b ∧ 0 ≤ p ∧ p < L sec a b)) : wh a b p = none ∧ ar' a b p < 1 := by
  constructor
  · unfold wh
    rw [if_neg]
    intro e
    exact h ⟨e.1, e.2.1, by rw [L, if_pos e.1]; exact e.2.2⟩
  · unfold ar'
    split
    · omega
    · rw [if_neg fun e => h ⟨e.1, by omega, e.2⟩]; omega
end GeM
end Go.Proofs.Ytijgbbeplojinaa
set_option maxRecDepth 100000
namespace Go.Proofs.Ytijgbbeplojinaa
open Go.ChangeShapes Go.WideShapes Go.ChangeAt Go.RowKit
attribute [local go_sem] Gives
namespace GeM
set_option maxHeartbeats 400000 in
theorem rcheck_any (a b : Int) (w : World) : Calls Try.prog 11 #[gv a b] w fun e w' => e = .returned (.int .i64 (if Good a b then 0 else 2)) ∧ Below w.heap.size w w' := by
  obtain ⟨c, hc⟩ : ∃ c : Int, c = if Good a b then 0 else 2 := ⟨_, rfl⟩
  rw [← hc]
  have HC := hid hc
  clear hc
  unfold gv
  go_enter Try.func11, Try.ntmps11
  go_wp2_with fail
  all_goals
    go_ret
    refine ⟨ret_i ?_, below_al _⟩
    have hc := HC.out
    clear HC
    simp only [Good] at hc
    first | (simp_all; done) | (simp_all; omega) | omega
set_option maxHeartbeats 400000 in
theorem rleaves_any : Tells 119 (L lv) := fun a b w => by
  by_cases hg : Good a b
  · obtain ⟨m, r, rfl, rfl, h1, h2, h3, h4⟩ := good_nat hg
    have hl := lv_bd hg
    rw [L_good hg]
    obtain ⟨n, hn⟩ : ∃ n, n = lv m r := ⟨_, rfl⟩
    have HN := hid (show (m : Int) * r = (n : Nat) by rw [hn]; unfold lv; push_cast; rfl)
    rw [← hn] at hl ⊢
    clear h1 h2 h3 h4
    unfold gv
    go_enter Try.func119, Try.ntmps119
    go_wp2_with fail
    refine (rcheck_any _ _ _).mono ?_
    rw [if_pos hg]
    rintro e w1 ⟨rfl, h1⟩
    have A1 := hid ((At.new w m r).on h1)
    have q0 := A1.out.c0
    have q1 := A1.out.c1
    clear h1
    go_wp2_with fail
    rw [HN.out]
    go_wp2_with fail
    go_ret
    exact ⟨ret_i (IntWalk.wrap64_in _ (by omega)), A1.out.bel⟩
  · rw [L_bad hg]
    unfold gv
    go_enter Try.func119, Try.ntmps119
    go_wp2_with fail
    refine (rcheck_any _ _ _).mono ?_
    rw [if_neg hg]
    rintro e w1 ⟨rfl, h1⟩
    have A1 := hid ((At.new w a b).on h1)
    clear h1
    go_wp2_with fail
    go_ret
    exact ⟨rfl, A1.out.bel⟩
set_option maxHeartbeats 400000 in
theorem rpower_any (h : Nat) (hh : h ≤ 12) (w : World) : Calls Try.prog 103 #[.int .i64 h] w fun e w' => e = .returned (.int .i64 (2 ^ h : Nat)) ∧ w = w' := by
  go_enter Try.func103, Try.ntmps103
  go_wp2_with fail
  go_loop [3, 4] (fun n i => ∃ k x : Nat, n = .int .i64 x ∧ i = .int .i64 k ∧ k ≤ h ∧ Hid (x = 2 ^ k)) (fun _ i => h - (intOf i).toNat)
  case atStart => exact ⟨0, 1, rfl, rfl, by omega, hid rfl⟩
  case round =>
    obtain ⟨k, x, rfl, rfl, hk, HX⟩ := hrel
    have hb : x ≤ 4096 := by
      have := Nat.pow_le_pow_right (show 0 < 2 by omega) (show k ≤ 12 by omega)
      rw [HX.out]; omega
    by_cases hgo : k < h
    · have t1 : (k : Int) < h := by omega
      go_wp2_with fail
      go_round
      case rel => exact ⟨k + 1, 2 * x, by go_num, by go_num, by omega, hid (by rw [HX.out, Nat.pow_succ]; omega)⟩
      case measure => simp [intOf] <;> omega
    · have t1 : ¬ (k : Int) < h := by omega
      go_wp2_with fail
      go_ret
      have : k = h := by omega
      subst this
      exact ⟨ret_i (congrArg (fun n : Nat => (n : Int)) HX.out), rfl⟩
set_option maxHeartbeats 800000 in
theorem rheight_any : Tells 104 (L ht) := fun a b w => by
  have hl : L lv a b ≤ 4096 ∧ (∀ k, k < L ht a b → 2 ^ k < L lv a b) ∧ L lv a b ≤ 2 ^ L ht a b ∧ L ht a b ≤ 12 := by
    by_cases hg : Good a b
    · obtain ⟨m, r, rfl, rfl, _⟩ := good_nat hg
      simp only [L_good hg]
      refine ⟨(lv_bd hg).2, fun k hk => ?_, ht_up hg, ht_bd hg⟩
      have h1 := ht_lo hg
      have := Nat.pow_le_pow_right (show 0 < 2 by omega) (show k ≤ ht m r - 1 by omega)
      omega
    · simp only [L_bad hg]
      exact ⟨by omega, fun k hk => absurd hk (Nat.not_lt_zero _), by omega, by omega⟩
  obtain ⟨n, hn⟩ : ∃ n, n = L lv a b := ⟨_, rfl⟩
  obtain ⟨t, ht'⟩ : ∃ t, t = L ht a b := ⟨_, rfl⟩
  rw [← hn, ← ht'] at hl
  rw [← ht']
  obtain ⟨l1, l2, l3, l4⟩ := hl
  have HL2 := hid l2
  have HL3 := hid l3
  have HN := hid hn
  clear l2 l3 hn ht'
  unfold gv
  go_enter Try.func104, Try.ntmps104
  go_wp2_with fail
  go_loopw [3] (fun u wr => ∃ k : Nat, u = .int .i64 k ∧ k ≤ t ∧ Hid (At w w.heap.size a b wr)) (fun u _ => t - (intOf u).toNat)
  case atStart => exact ⟨0, rfl, by omega, hid (At.new w a b)⟩
  case round =>
    obtain ⟨k, rfl, hk, HA⟩ := hrel
    go_wp2_with fail
    have HK := hid hk
    obtain ⟨x, hx⟩ : ∃ x, x = 2 ^ k := ⟨_, rfl⟩
    have HX := hid hx
    clear hx
    have hk12 := hid (show k ≤ 12 by omega)
    refine wp_region_tail (C := At w w.heap.size a b) 4 (by kernel_rfl) (by kernel_rfl) (by kernel_rfl) HA.out.drew ?_
    simp only [List.take_succ_cons, List.take_zero, List.drop_succ_cons, List.drop_zero]
    apply wpK_val
    · rfl
    · intro w' hw'
      go_simp
      first | exact rfl | exact ⟨rfl, hw'⟩
    simp only [Act.put, List.setIfInBounds_toArray, List.set_cons_succ, List.set_cons_zero]
    apply wpK_val
    · rfl
    · intro w' hw'
      go_simp
      exact (rpower_any k hk12.out w').mono fun e w5 h => ⟨h.1, h.2 ▸ hw'⟩
    simp only [Act.put, List.setIfInBounds_toArray, List.set_cons_succ, List.set_cons_zero]
    rw [← HX.out]
    apply kldR (tGe _ _)
    · rfl
    · rfl
    · exact fun w' hw' => hw'.blk.whole
    simp only [Act.put, List.setIfInBounds_toArray, List.set_cons_succ, List.set_cons_zero]
    apply wpK_val
    · rfl
    · intro w' hw'
      go_simp
      exact (rleaves_any _ _ w').mono fun e w5 h => ⟨h.1, hw'.on h.2⟩
    simp only [Act.put, List.setIfInBounds_toArray, List.set_cons_succ, List.set_cons_zero]
    refine wpK_nil fun w5 hw5 => ?_
    have A5 := hid hw5
    rw [← HN.out]
    clear hw5 HA
    by_cases hgo : k < t
    · have t1 : (x : Int) < (n : Int) := by have := HL2.out k hgo; have := HX.out; omega
      go_wp2_with fail
      go_roundw
      case rel => exact ⟨k + 1, by go_num, by omega, A5⟩
      case measure => simp [intOf] <;> omega
    · have e : k = t := by have := HK.out; omega
      subst e
      have t1 : ¬ (x : Int) < (n : Int) := by have := HL3.out; have := HX.out; omega
      go_wp2_with fail
      go_ret
      exact ⟨rfl, A5.out.bel⟩
theorem L_ht (a b : Int) : L ht a b ≤ 12 ∧ 2 ^ L ht a b = L nd a b + 1 := by
  by_cases hg : Good a b
  · obtain ⟨m, r, rfl, rfl, k1, k2, k3, k4⟩ := good_nat hg
    rw [L_good hg, L_good hg]
    exact ⟨ht_bd hg, (nd_eq hg).symm⟩
  · rw [L_bad hg, L_bad hg]
    exact ⟨by omega, rfl⟩
set_option maxHeartbeats 400000 in
theorem rnodes_any : Tells 96 (L nd) := fun a b w => by
  obtain ⟨h1, h2⟩ := L_ht a b
  have H1 := hid h1
  have H2 := hid h2
  clear h1 h2
  have hb : L nd a b ≤ 8190 := L_le fun h => (nd_bd h).2
  unfold gv
  go_enter Try.func96, Try.ntmps96
  go_wp2_with ((with_reducible apply ldR (cs := #[Value.int .i64 a, .int .i64 b]) (tGe _ _)); rfl; exact (At.new w a b).blk.whole)
  refine (rheight_any _ _ _).mono ?_
  rintro e w1 ⟨rfl, h1⟩
  have A1 := hid ((At.new w a b).on h1)
  clear h1
  go_wp2_with fail
  refine (rpower_any _ H1.out _).mono ?_
  rintro e w2 ⟨rfl, rfl⟩
  rw [H2.out]
  go_wp2_with fail
  go_ret
  exact ⟨ret_i (by omega), A1.out.bel⟩
set_option maxHeartbeats 800000 in
theorem rcapacity_any : Tells 102 (L cp) := fun a b w => by
  by_cases hg : Good a b
  · obtain ⟨m, r, rfl, rfl, k1, k2, k3, k4⟩ := good_nat hg
    rw [L_good hg]
    unfold gv
    go_enter Try.func102, Try.ntmps102
    go_wp2_with fail
    refine (rcheck_any _ _ _).mono ?_
    rw [if_pos hg]
    rintro e w1 ⟨rfl, h1⟩
    have A1 := hid ((At.new w m r).on h1)
    have q0 := A1.out.c0
    have q1 := A1.out.c1
    clear h1
    by_cases h6 : 6 < m
    · have hM : mx m = m := by unfold mx; rw [if_pos h6]
      have b2 := nd_bd hg
      have b3 := mh_bd hg
      have b4 := ht_bd hg
      obtain ⟨x, hx⟩ : ∃ x, x = m * ht m r := ⟨_, rfl⟩
      rw [hM, ← hx] at b3
      have hc : cp m r = m + (if nd m r < x then nd m r else x) + 8 := by rw [cp, hM, hx]
      have HQ := hid (show wrap64 ((m : Int) * ((ht m r : Nat) : Int)) = ((x : Nat) : Int) by rw [hx, Int.natCast_mul]; exact IntWalk.wrap64_in _ (by rw [show ((m : Int) * ((ht m r : Nat) : Int)) = ((m * ht m r : Nat) : Int) by push_cast; rfl, ← hx]; omega))
      have X1 := hid hx
      have HC := hid hc
      have t6 : (6 : Int) < m := by omega
      clear hx hc hM
      go_wp2_with ((with_reducible apply ldR (cs := #[Value.int .i64 m, .int .i64 r]) (tGe _ _)); rfl; exact A1.out.blk.whole)
      refine (rheight_any _ _ _).mono ?_
      rw [L_good hg]
      rintro e w2 ⟨rfl, h2⟩
      have A2 := hid (A1.out.on h2)
      clear h2 A1 q0 q1
      
      go_wp2_with ((with_reducible apply ldR (cs := #[Value.int .i64 m, .int .i64 r]) (tGe _ _)); rfl; exact A2.out.blk.whole)
      refine (rnodes_any _ _ _).mono ?_
      rw [L_good hg]
      rintro e w3 ⟨rfl, h3⟩
      have A3 := hid (A2.out.on h3)
      clear h3 A2
      rw [HQ.out]
      by_cases hn : nd m r < x
      · rw [if_pos hn] at HC
        have t7 : ((nd m r : Nat) : Int) < x := by omega
        go_wp2_with ((with_reducible apply ldR (cs := #[Value.int .i64 m, .int .i64 r]) (tGe _ _)); rfl; exact A3.out.blk.whole)
        refine (rnodes_any _ _ _).mono ?_
        rw [L_good hg]
        rintro e w4 ⟨rfl, h4⟩
        have A4 := hid (A3.out.on h4)
        clear h4 A3
        go_wp2_with fail
        go_ret
        exact ⟨ret_i (by have := HC.out; omega), A4.out.bel⟩
      · rw [if_neg hn] at HC
        have t7 : ¬ ((nd m r : Nat) : Int) < x := by omega
        go_wp2_with fail
        go_ret
        exact ⟨ret_i (by have := HC.out; omega), A3.out.bel⟩
    · have hM : mx m = 6 := by unfold mx; rw [if_neg h6]
      have b2 := nd_bd hg
      have b3 := mh_bd hg
      have b4 := ht_bd hg
      obtain ⟨x, hx⟩ : ∃ x, x = 6 * ht m r := ⟨_, rfl⟩
      rw [hM, ← hx] at b3
      have hc : cp m r = 6 + (if nd m r < x then nd m r else x) + 8 := by rw [cp, hM, hx]
      have HQ := hid (show wrap64 (6 * ((ht m r : Nat) : Int)) = ((x : Nat) : Int) by rw [hx, Int.natCast_mul]; exact IntWalk.wrap64_in _ (by rw [show (6 * ((ht m r : Nat) : Int)) = ((6 * ht m r : Nat) : Int) by push_cast; rfl, ← hx]; omega))
      have X1 := hid hx
      have HC := hid hc
      have t6 : ¬ (6 : Int) < m := by omega
      clear hx hc hM
      go_wp2_with ((with_reducible apply ldR (cs := #[Value.int .i64 m, .int .i64 r]) (tGe _ _)); rfl; exact A1.out.blk.whole)
      refine (rheight_any _ _ _).mono ?_
      rw [L_good hg]
      rintro e w2 ⟨rfl, h2⟩
      have A2 := hid (A1.out.on h2)
      clear h2 A1 q0 q1
      have b5 : ((6 * ht m r : Nat) : Int) = x := by rw [X1.out]
      go_wp2_with ((with_reducible apply ldR (cs := #[Value.int .i64 m, .int .i64 r]) (tGe _ _)); rfl; exact A2.out.blk.whole)
      refine (rnodes_any _ _ _).mono ?_
      rw [L_good hg]
      rintro e w3 ⟨rfl, h3⟩
      have A3 := hid (A2.out.on h3)
      clear h3 A2
      rw [show (6 : Int) * ((ht m r : Nat) : Int) = (x : Nat) by rw [← b5]; push_cast; rfl]
      by_cases hn : nd m r < x
      · rw [if_pos hn] at HC
        have t7 : ((nd m r : Nat) : Int) < x := by omega
        go_wp2_with ((with_reducible apply ldR (cs := #[Value.int .i64 m, .int .i64 r]) (tGe _ _)); rfl; exact A3.out.blk.whole)
        refine (rnodes_any _ _ _).mono ?_
        rw [L_good hg]
        rintro e w4 ⟨rfl, h4⟩
        have A4 := hid (A3.out.on h4)
        clear h4 A3
        go_wp2_with fail
        go_ret
        exact ⟨ret_i (by have := HC.out; omega), A4.out.bel⟩
      · rw [if_neg hn] at HC
        have t7 : ¬ ((nd m r : Nat) : Int) < x := by omega
        go_wp2_with fail
        go_ret
        exact ⟨ret_i (by have := HC.out; omega), A3.out.bel⟩
  · rw [L_bad hg]
    unfold gv
    go_enter Try.func102, Try.ntmps102
    go_wp2_with fail
    refine (rcheck_any _ _ _).mono ?_
    rw [if_neg hg]
    rintro e w1 ⟨rfl, h1⟩
    have A1 := hid ((At.new w a b).on h1)
    clear h1
    go_wp2_with fail
    go_ret
    exact ⟨rfl, A1.out.bel⟩
set_option maxHeartbeats 800000 in
theorem rhalf_any : Tells 95 (L hf) := fun a b w => by
  by_cases hg : Good a b
  · obtain ⟨m, r, rfl, rfl, k1, k2, k3, k4⟩ := good_nat hg
    rw [L_good hg]
    obtain ⟨c, hc⟩ : ∃ c, c = cp m r := ⟨_, rfl⟩
    have hb := cp_bd hg
    have hh : hf m r = 2 + (69 * c + 63) / 64 := by rw [hf, hc]
    rw [← hc] at hb
    rw [hh]
    have HC := hid hc
    clear hc hh
    unfold gv
    go_enter Try.func95, Try.ntmps95
    go_wp2_with fail
    refine (rcheck_any _ _ _).mono ?_
    rw [if_pos hg]
    rintro e w1 ⟨rfl, h1⟩
    have A1 := hid ((At.new w m r).on h1)
    clear h1
    go_wp2_with fail
    go_loopw [3] (fun u wr => ∃ k : Nat, u = .int .i64 k ∧ k ≤ (69 * c + 63) / 64 ∧ Hid (At w w.heap.size m r wr)) (fun u _ => 2000 - (intOf u).toNat)
    case atStart => exact ⟨0, rfl, by omega, A1⟩
    case round =>
      obtain ⟨k, rfl, hk, HA⟩ := hrel
      go_wp2_with ((with_reducible apply ldR (cs := #[Value.int .i64 m, .int .i64 r]) (tGe _ _)); rfl; exact HA.out.blk.whole)
      refine (rcapacity_any _ _ _).mono ?_
      rw [L_good hg]
      rintro e w2 ⟨rfl, h2⟩
      have A2 := hid (HA.out.on h2)
      clear h2 HA
      rw [← HC.out]
      by_cases hgo : 64 * k < 69 * c
      · have t1 : 64 * (k : Int) < 69 * (c : Int) := by omega
        go_wp2_with fail
        go_roundw
        case rel => exact ⟨k + 1, by go_num, by omega, A2⟩
        case measure => simp [intOf] <;> omega
      · have t1 : ¬ 64 * (k : Int) < 69 * (c : Int) := by omega
        go_wp2_with fail
        go_ret
        exact ⟨ret_i (by omega), A2.out.bel⟩
  · rw [L_bad hg]
    unfold gv
    go_enter Try.func95, Try.ntmps95
    go_wp2_with fail
    refine (rcheck_any _ _ _).mono ?_
    rw [if_neg hg]
    rintro e w1 ⟨rfl, h1⟩
    have A1 := hid ((At.new w a b).on h1)
    clear h1
    go_wp2_with fail
    go_ret
    exact ⟨rfl, A1.out.bel⟩
theorem rleast_any (k : Int) (w : World) : Calls Try.prog 84 #[.int .i64 k] w fun e w' => e = .returned (.int .i64 (lw k)) ∧ w = w' := by
  unfold lw
  go_enter Try.func84, Try.ntmps84
  go_wp2_with fail
  all_goals go_ret
  all_goals exact ⟨ret_i (by simp_all), rfl⟩
set_option maxHeartbeats 800000 in
theorem rcount_any {m r k : Nat} (hg : Good m r) (h1 : 1 ≤ k) (h4 : k ≤ 4) (w : World) : Calls Try.prog 83 #[gv m r, .int .i64 k] w fun e w' => e = .returned (.int .i64 (sz m r k)) ∧ Below w.heap.size w w' := by
  have hk : k = 1 ∨ k = 2 ∨ k = 3 ∨ k = 4 := by omega
  have b1 := hf_bd hg
  clear h1 h4
  rcases hk with rfl | rfl | rfl | rfl
  · unfold gv
    go_enter Try.func83, Try.ntmps83
    go_wp2_with fail
    go_ret
    exact ⟨rfl, below_al _⟩
  · unfold gv
    rw [sz_2]
    go_enter Try.func83, Try.ntmps83
    go_wp2_with ((with_reducible apply ldR (cs := #[Value.int .i64 m, .int .i64 r]) (tGe _ _)); rfl; exact (At.new w m r).blk.whole)
    refine (rhalf_any _ _ _).mono ?_
    rw [L_good hg]
    rintro e w2 ⟨rfl, h2⟩
    have A2 := hid ((At.new w m r).on h2)
    clear h2
    go_wp2_with fail
    go_ret
    exact ⟨ret_i (by omega), A2.out.bel⟩
  · unfold gv
    rw [sz_3]
    go_enter Try.func83, Try.ntmps83
    go_wp2_with ((with_reducible apply ldR (cs := #[Value.int .i64 m, .int .i64 r]) (tGe _ _)); rfl; exact (At.new w m r).blk.whole)
    refine (rnodes_any _ _ _).mono ?_
    rw [L_good hg]
    rintro e w2 ⟨rfl, h2⟩
    have A2 := hid ((At.new w m r).on h2)
    clear h2
    go_wp2_with fail
    go_ret
    exact ⟨rfl, A2.out.bel⟩
  · unfold gv
    rw [sz_4]
    go_enter Try.func83, Try.ntmps83
    go_wp2_with fail
    go_ret
    exact ⟨rfl, below_al _⟩
theorem sz_le {m r k : Nat} (hg : Good m r) (h1 : 1 ≤ k) (h4 : k ≤ 4) : sz m r k ≤ 20000 := by
  have := st_sz m r h1 h4
  have := @st_le m r (k + 1) hg
  omega
end GeM
end Go.Proofs.Ytijgbbeplojinaa
set_option maxRecDepth 100000
namespace Go.Proofs.Ytijgbbeplojinaa
open Go.ChangeShapes Go.WideShapes Go.ChangeAt Go.RowKit
attribute [local go_sem] Gives
namespace GeM
set_option maxHeartbeats 800000 in
theorem rplace_any (a b k i : Int) (w : World) : Calls Try.prog 47 #[gv a b, .int .i64 k, .int .i64 i] w fun e w' => e = .returned (plV (pl a b k i)) ∧ Below w.heap.size w w' := by
  by_cases hg : Good a b
  · obtain ⟨m, r, rfl, rfl, _, _, _, _⟩ := good_nat hg
    by_cases hk : 1 ≤ k ∧ k ≤ 4
    · obtain ⟨c, rfl⟩ : ∃ c : Nat, k = c := ⟨k.toNat, by omega⟩
      have hc1 : 1 ≤ c := by omega
      have hc4 : c ≤ 4 := by omega
      have hp := pl_L hc1 hc4 m r i
      rw [L_good hg, L_good hg] at hp
      have hz := st_sz m r hc1 hc4
      have hb := @st_le m r (c + 1) hg
      have HP := hid hp
      have HB := hid hb
      have HZ := hid hz
      have t1 : ¬ (c : Int) < 1 := by omega
      have t4 : ¬ 4 < (c : Int) := by omega
      clear hp hb hz hk
      unfold gv
      go_enter Try.func47, Try.ntmps47
      go_wp2_with fail
      refine (rcheck_any _ _ _).mono ?_
      rw [if_pos hg]
      rintro e w1 ⟨rfl, h1⟩
      have A1 := hid ((At.new w m r).on h1)
      clear h1
      go_wp2_with fail
      go_loopw [8, 9] (fun n u wr => ∃ q x : Nat, n = .int .i64 x ∧ u = .int .i64 q ∧ 1 ≤ q ∧ q ≤ c ∧ Hid (x = st m r q) ∧ Hid (At w w.heap.size m r wr)) (fun _ u _ => 5 - (intOf u).toNat)
      case atStart => exact ⟨1, 0, rfl, rfl, by omega, by omega, hid rfl, A1⟩
      case round =>
        obtain ⟨q, x, rfl, rfl, hq, hqc, HX, HA⟩ := hrel
        by_cases hgo : q < c
        · have t2 : (q : Int) < c := by omega
          have b1 := @st_le m r q hg
          have b2 := sz_le hg hq (by omega)
          have b3 := st_sz m r hq (by omega)
          have b4 := HX.out
          have HQ := hid hq
          have HQ4 := hid (show q ≤ 4 by omega)
          go_wp2_with ((with_reducible apply ldR (cs := #[Value.int .i64 m, .int .i64 r]) (tGe _ _)); rfl; exact HA.out.blk.whole)
          refine (rcount_any hg HQ.out HQ4.out _).mono ?_
          rintro e w2 ⟨rfl, h2⟩
          have A2 := hid (HA.out.on h2)
          clear h2 HA
          go_wp2_with fail
          go_roundw
          case rel => exact ⟨q + 1, x + sz m r q, by go_num, by go_num, by omega, by omega, hid (by omega), A2⟩
          case measure => simp [intOf] <;> omega
        · have t2 : ¬ (q : Int) < c := by omega
          have e : q = c := by omega
          subst e
          have hx := HX.out
          subst hx
          clear HX hq hqc hgo A1
          go_wp2_with fail
          go_loopw [10] (fun u wr => ∃ j : Nat, u = .int .i64 j ∧ j ≤ sz m r q ∧ Hid (∀ n : Nat, n < j → (n : Int) + lw q ≠ i) ∧ Hid (At w w.heap.size m r wr)) (fun u _ => 30000 - (intOf u).toNat)
          case atStart => exact ⟨0, rfl, Nat.zero_le _, hid fun n hn => absurd hn (Nat.not_lt_zero _), HA⟩
          case round =>
            obtain ⟨j, rfl, hj, HN, HAj⟩ := hrel
            go_wp2_with ((with_reducible apply ldR (cs := #[Value.int .i64 m, .int .i64 r]) (tGe _ _)); rfl; exact HAj.out.blk.whole)
            refine (rcount_any hg hc1 hc4 _).mono ?_
            rintro e w2 ⟨rfl, h2⟩
            have A2 := hid (HAj.out.on h2)
            clear h2 HAj
            by_cases hgo : j < sz m r q
            · have t3 : (j : Int) < (sz m r q : Nat) := by omega
              go_wp2_with fail
              refine (rleast_any _ _).mono ?_
              rintro e w3 ⟨rfl, rfl⟩
              have hb := HB.out
              have hz := HZ.out
              have l1 : lw q ≤ 1 := by unfold lw; split <;> omega
              by_cases he : (j : Int) + lw q = i
              · go_wp2_with fail
                go_ret2
                rw [HP.out, if_pos (by omega)]
                refine ⟨?_, A2.out.bel⟩
                unfold plV
                refine congrArg (fun v : Int => Ending.returned (.tuple #[.int .i64 v, .int .i64 0])) ?_
                omega
              · go_wp2_with fail
                go_roundw
                case rel =>
                  refine ⟨j + 1, by go_num, by omega, hid fun n hn => ?_, A2⟩
                  by_cases e : n = j
                  · subst e; exact he
                  · exact HN.out n (by omega)
                case measure => simp [intOf] <;> omega
            · have t3 : ¬ (j : Int) < (sz m r q : Nat) := by omega
              go_wp2_with fail
              go_ret2
              rw [HP.out, if_neg]
              · exact ⟨rfl, A2.out.bel⟩
              · rintro ⟨e1, e2⟩
                have hz := HZ.out
                exact HN.out (i - lw q).toNat (by omega) (by omega)
    · rw [pl_none (by omega)]
      by_cases h1 : k < 1
      · unfold gv
        go_enter Try.func47, Try.ntmps47
        go_wp2_with fail
        refine (rcheck_any _ _ _).mono ?_
        rw [if_pos hg]
        rintro e w1 ⟨rfl, h1⟩
        have A1 := hid ((At.new w _ _).on h1)
        clear h1
        go_wp2_with fail
        go_ret2
        exact ⟨rfl, A1.out.bel⟩

      · have h4 : 4 < k := by omega
        unfold gv
        go_enter Try.func47, Try.ntmps47
        go_wp2_with fail
        refine (rcheck_any _ _ _).mono ?_
        rw [if_pos hg]
        rintro e w1 ⟨rfl, h1⟩
        have A1 := hid ((At.new w _ _).on h1)
        clear h1
        go_wp2_with fail
        go_ret2
        exact ⟨rfl, A1.out.bel⟩

  · rw [pl_none fun e => hg e.1]
    unfold gv
    go_enter Try.func47, Try.ntmps47
    go_wp2_with fail
    refine (rcheck_any _ _ _).mono ?_
    rw [if_neg hg]
    rintro e w1 ⟨rfl, h1⟩
    have A1 := hid ((At.new w _ _).on h1)
    clear h1
    go_wp2_with fail
    go_ret2
    exact ⟨rfl, A1.out.bel⟩

end GeM
end Go.Proofs.Ytijgbbeplojinaa
set_option maxRecDepth 100000
namespace Go.Proofs.Ytijgbbeplojinaa
open Go.ChangeShapes Go.WideShapes Go.ChangeAt Go.RowKit
attribute [local go_sem] Gives
namespace GeM
set_option maxHeartbeats 400000 in
theorem rmay_any (a b : Int) (w : World) : Calls Try.prog 82 #[gv a b] w fun e w' => e = .returned (.bool (decide (Good a b))) ∧ Below w.heap.size w w' := by
  obtain ⟨c, hc⟩ : ∃ c : Bool, c = decide (Good a b) := ⟨_, rfl⟩
  rw [← hc]
  have HC := hid hc
  clear hc
  have hf : ¬ Good a b → c = false := fun h => by rw [HC.out]; exact decide_eq_false h
  have HF := hid hf
  clear hf
  unfold gv
  by_cases h1 : (4 : Int) ≤ a
  · by_cases h2 : a ≤ (64 : Int)
    · by_cases h3 : (1 : Int) ≤ b
      · by_cases h4 : b ≤ (64 : Int)
        · have hg := hid (show c = true by rw [HC.out]; exact decide_eq_true ⟨h1, h2, h3, h4⟩)
          go_enter Try.func82, Try.ntmps82
          go_wp2_with fail
          go_ret
          exact ⟨by rw [hg.out]; rfl, below_al _⟩
        · go_enter Try.func82, Try.ntmps82
          go_wp2_with fail
          go_ret
          exact ⟨by rw [HF.out fun h => by have := h.2.2.2; omega]; rfl, below_al _⟩
      · go_enter Try.func82, Try.ntmps82
        go_wp2_with fail
        go_ret
        exact ⟨by rw [HF.out fun h => by have := h.2.2.1; omega]; rfl, below_al _⟩
    · go_enter Try.func82, Try.ntmps82
      go_wp2_with fail
      go_ret
      exact ⟨by rw [HF.out fun h => by have := h.2.1; omega]; rfl, below_al _⟩
  · go_enter Try.func82, Try.ntmps82
    go_wp2_with fail
    go_ret
    exact ⟨by rw [HF.out fun h => by have := h.1; omega]; rfl, below_al _⟩
set_option maxHeartbeats 400000 in
theorem rat_any (a b n : Int) (hn9 : n ≤ 9223372036854775807) (w : World) : Calls Try.prog 46 #[gv a b, .int .i64 n] w fun e w' => e = .returned (v3 (atP a b n)) ∧ Below w.heap.size w w' := by
  unfold gv
  go_enter Try.func46, Try.ntmps46
  go_wp2_with ((with_reducible apply ldR (cs := #[Value.int .i64 a, .int .i64 b]) (tGe _ _)); rfl; exact (At.new w a b).blk.whole)
  refine (rmay_any _ _ _).mono ?_
  rintro e w1 ⟨rfl, h1⟩
  have A1 := hid ((At.new w a b).on h1)
  clear h1
  have q0 := A1.out.c0
  have q1 := A1.out.c1
  by_cases hg : Good a b
  · rw [decide_eq_true hg]
    obtain ⟨m, q, rfl, rfl, k1, k2, k3, k4⟩ := good_nat hg
    by_cases hn : n < 0
    · have H := hid (atP_no (a := m) (b := q) (n := n) fun h => by have := h.2.1; omega)
      go_wp2_with fail
      go_ret3
      exact ⟨by rw [H.out]; rfl, A1.out.bel⟩
    · obtain ⟨y, rfl⟩ : ∃ y : Nat, n = y := ⟨n.toNat, by omega⟩
      have HY := hid (show y < m * q → atP m q y = (y / m, y % m, 0) from fun h => atP_ok hg h)
      have HN := hid (show ¬ y < m * q → atP m q y = (0, 0, 2) from fun h => atP_no fun e => h (by have := e.2.2; rw [L_good hg] at this; unfold lv at this; omega))
      have t1 : decide ((y : Int) < 0) = false := decide_eq_false (by omega)
      obtain ⟨Y, hY⟩ : ∃ Y : Nat, Y = y := ⟨_, rfl⟩
      have HYY := hid hY
      rw [← hY] at HY HN
      clear hg hY
      go_wp2_with fail
      go_loop [1, 7] (fun u1 u7 => ∃ i l : Nat, u1 = .int .i64 l ∧ u7 = .int .i64 i ∧ i ≤ q ∧ Hid (Y = i * m + l)) (fun _ u7 => q - (intOf u7).toNat)
      case atStart => exact ⟨0, y, rfl, rfl, by omega, hid (by have := HYY.out; omega)⟩
      case round =>
        obtain ⟨i, l, rfl, rfl, hi, HL⟩ := hrel
        by_cases hgo : i < q
        · have t2 : (i : Int) < q := by omega
          by_cases hl : l < m
          · have t3 : (l : Int) < m := by omega
            have HF := hid (show atP m q Y = (i, l, 0) by
              have e1 := HL.out
              have e3 : Y = l + m * i := by rw [Nat.mul_comm]; omega
              have e4 : Y < m * q := by
                have := Nat.mul_le_mul_left m (show i + 1 ≤ q by omega)
                rw [Nat.mul_add] at this
                omega
              rw [HY.out e4, e3, Nat.add_mul_div_left _ _ (by omega), Nat.div_eq_of_lt hl, Nat.add_mul_mod_self_left, Nat.mod_eq_of_lt hl, Nat.zero_add])
            go_wp2_with fail
            go_ret3
            exact ⟨by rw [← HYY.out, HF.out]; rfl, A1.out.bel⟩
          · have t3 : ¬ (l : Int) < m := by omega
            obtain ⟨z, hz⟩ : ∃ z, z = l - m := ⟨_, rfl⟩
            have hl9 : l ≤ 9223372036854775807 := by have := HL.out; have := HYY.out; omega
            have e1 : wrap64 ((l : Int) - (m : Int)) = (z : Int) := by rw [IntWalk.wrap64_in _ (by omega)]; omega
            have HZ := hid (show Y = (i + 1) * m + z by have := HL.out; rw [Nat.add_mul]; omega)
            have Z := hid hz
            clear hz
            go_wp2_with fail
            go_round
            case rel => exact ⟨i + 1, z, congrArg (Value.int .i64) (by have := Z.out; omega), by go_num, by omega, HZ⟩
            case measure => simp [intOf] <;> omega
        · have t2 : ¬ (i : Int) < q := by omega
          have HF := hid (show atP m q Y = (0, 0, 2) from HN.out fun h => by
            have e1 := HL.out
            rw [show i = q by omega, Nat.mul_comm] at e1
            omega)
          go_wp2_with fail
          go_ret3
          exact ⟨by rw [← HYY.out, HF.out]; rfl, A1.out.bel⟩
  · rw [decide_eq_false hg]
    have H := hid (atP_no (a := a) (b := b) (n := n) fun h => hg h.1)
    clear hg
    go_wp2_with fail
    go_ret3
    exact ⟨by rw [H.out]; rfl, A1.out.bel⟩
end GeM
end Go.Proofs.Ytijgbbeplojinaa
set_option maxRecDepth 100000
namespace Go.Proofs.Ytijgbbeplojinaa
open Go.ChangeShapes Go.WideShapes Go.ChangeAt Go.RowKit
attribute [local go_sem] Gives GivesE
namespace MiM
open GeM
/-- A geometry and a write as they were handed down. -/
structure GW (w : World) (gg gw : Nat) (a b k i : Int) (x : Nat → Nat) (w1 : World) : Prop where
  geo : Blk w1 gg tyG #[.int .i64 a, .int .i64 b]
  wr : Blk w1 gw tyW (wrL k i x).toArray
  bel : Below w.heap.size w w1
section
variable {w : World} {gg gw : Nat} {a b k i : Int} {x : Nat → Nat} {w1 w2 : World}
theorem GW.on (h : GW w gg gw a b k i x w1) (hb : Below w1.heap.size w1 w2) : GW w gg gw a b k i x w2 := ⟨h.geo.below hb h.geo.lt, h.wr.below hb h.wr.lt, h.bel.trans (hb.mono h.bel.size)⟩
theorem GW.mk' (w : World) (a b k i : Int) (x : Nat → Nat) : GW w w.heap.size (w.heap.size + 1) a b k i x ((w.alloc (.cells #[.int .i64 a, .int .i64 b] tyG)).alloc (.cells (wrL k i x).toArray tyW)) :=
  ⟨(Blk.new _ _ _).alloc _, Blk.top rfl (by simp), ((Below.refl _ _).alloc (Nat.le_refl _) _).alloc (by simp) _⟩
theorem GW.turn {S : Nat → Prop} (h : GW w gg gw a b k i x w1) (ht : Turn S w1 w2) (h1 : ¬ S gg) (h2 : ¬ S gw) (h3 : ∀ q, S q → w.heap.size ≤ q) : GW w gg gw a b k i x w2 :=
  ⟨h.geo.turn ht h1, h.wr.turn ht h2, h.bel.trans (ht.below h.bel.size h3)⟩
theorem GW.g0 (h : GW w gg gw a b k i x w1) : w1.cell? ⟨gg, 0, none⟩ = some (.int .i64 a) := h.geo.cell 0
end
theorem wh_some {a b k i : Int} {f n p : Nat} (h : hom a b k i = some (f, n, p)) : whL a b k i = rnd a.toNat f n ∧ whP a b k i = p := by
  unfold whL whP; rw [h]; exact ⟨rfl, rfl⟩
theorem wh_none {a b k i : Int} (h : hom a b k i = none) : whL a b k i = [] ∧ whP a b k i = 0 := by
  unfold whL whP; rw [h]; exact ⟨rfl, rfl⟩
set_option maxRecDepth 100000 in
set_option maxHeartbeats 3200000 in
theorem rwhere_any (a b k i : Int) (x : Nat → Nat) (hi : -9223372036854775808 ≤ i ∧ i ≤ 9223372036854775807) (w : World) : Calls Try.prog 10 #[gv a b, .agg (wrL k i x).toArray] w fun e w' => ∃ v, e = .returned (.tuple #[v, .int .i64 ((whP a b k i : Nat) : Int)]) ∧ OwnI w' w.heap.size v (whL a b k i) ∧ Below w.heap.size w w' := by
  obtain ⟨R, hR⟩ : ∃ R, R = whL a b k i := ⟨_, rfl⟩
  obtain ⟨P, hP⟩ : ∃ P, P = whP a b k i := ⟨_, rfl⟩
  rw [← hR, ← hP]
  have HR := hid hR
  have HP := hid hP
  have HI := hid hi
  clear hR hP
  unfold gv
  go_enter Try.func10, Try.ntmps10
  go_upto_region 1 with fail
  obtain ⟨gg, hgg⟩ : ∃ g, g = w.heap.size := ⟨_, rfl⟩
  obtain ⟨gw, hgw⟩ : ∃ g, g = w.heap.size + 1 := ⟨_, rfl⟩
  rw [← hgw, ← hgg]
  generalize hW : World.alloc (World.alloc w _) _ = w1
  have G1 := hid (show GW w gg gw a b k i x w1 by rw [hgg, hgw, ← hW]; exact GW.mk' w a b k i x)
  clear hgg hgw hW
  go_wp2_with ((with_reducible apply ldR (cs := #[Value.int .i64 a, .int .i64 b]) (tGe _ _)); rfl; exact G1.out.geo.whole)
  refine (rcheck_any a b w1).mono ?_
  rintro e w2 ⟨rfl, h2⟩
  have G2 := hid (G1.out.on h2)
  clear h2 G1
  by_cases hg : GeM.Good a b
  · rw [if_pos hg]
    obtain ⟨m, q, rfl, rfl, hm4, hm64, hq1, hq64⟩ := good_nat hg
    have HG := hid hg
    obtain ⟨z, hz⟩ : ∃ z, z = w2.heap.size := ⟨_, rfl⟩
    have z0 : w.heap.size ≤ z := by rw [hz]; exact G2.out.bel.size
    have z1 : gg < z := by rw [hz]; exact G2.out.geo.lt
    have z2 : gw < z := by rw [hz]; exact G2.out.wr.lt
    have z3 : z ≤ w2.heap.size := by omega
    clear hz hg
    have r0 := wr_k G2.out.wr
    have r1 := wr_i G2.out.wr
    by_cases k1 : k = 1
    · subst k1
      go_wp2_with fail
      clear r0 r1
      go_loopw [7, 8] (fun u v wr => ∃ j : Nat, j ≤ m ∧ v = .int .i64 (j : Nat) ∧ z ≤ wr.heap.size ∧ Hid (OwnI wr z u (List.range j)) ∧ Hid (GW w gg gw m q 1 i x wr)) (fun _ v _ => m - (intOf v).toNat)
      case atStart => exact ⟨0, Nat.zero_le _, rfl, z3, hid (ownI_nil _ _), G2⟩
      case round =>
        clear G2 z3
        obtain ⟨j, hj, rfl, hzw, HO, G⟩ := hrel
        have s0 := G.out.g0
        by_cases hgo : j < m
        · have t1 : (j : Int) < (m : Int) := by omega
          have hl := hid (show (List.range j).length ≤ 1000 by rw [List.length_range]; omega)
          go_wp2_with ((with_reducible apply wappi (y := j)); rfl; rfl; exact World.ownsRow.alloc HO.out _; simp; exact hl.out; (simp; omega); intro v' w5 o5 g5; have O5 := hid o5; have T5 := hid ((Turn.of_new (S := fun b => z ≤ b) ((Below.refl wr.heap.size wr).alloc (Nat.le_refl _) (.cells #[.int .i64 (j : Nat)] 3))).trans (Turn.of_grown (S := fun b => u7.ownBlock = some b) g5 fun b e => e) fun b e => .inl ((HO.out.lt b e).1)); clear o5 g5)
          have G5 := hid (G.out.turn T5.out (by show ¬ z ≤ gg; omega) (by show ¬ z ≤ gw; omega) fun q e => Nat.le_trans z0 e)
          have hz5 := Nat.le_trans hzw T5.out.size
          clear T5 s0 G HO
          go_roundw
          case rel => exact ⟨j + 1, by omega, by go_num, hz5, by rw [List.range_succ]; exact O5, G5⟩
          case measure => simp [intOf] <;> omega
        · have t1 : ¬ (j : Int) < (m : Int) := by omega
          have ej : j = m := by omega
          subst ej
          have r0 := wr_k G.out.wr
          clear hgo hj
          go_wp2_with ((with_reducible apply ldR (cs := #[Value.int .i64 j, .int .i64 q]) (tGe _ _)); rfl; exact G.out.geo.whole)
          refine (rplace_any j q 1 i wr).mono ?_
          rintro e w3 ⟨rfl, h3⟩
          have G3 := hid (G.out.on h3)
          cases hp : pl j q 1 i with
          | none =>
            have hn : hom j q 1 i = none := by rw [hom_1, hp]; rfl
            have e1 := hid (wh_none hn)
            clear hn hp h3 G HO s0 r0
            unfold plV
            go_wp2_with fail
            go_ret2
            exact ⟨.slice none 0 0, by rw [HP.out, e1.out.2]; rfl, by rw [HR.out, e1.out.1]; exact ownI_nil _ _, G3.out.bel⟩
          | some p =>
            have O3 := hid (HO.out.below h3 (Nat.le_refl _))
            have HJ := hid (hom_1 (a := j) (b := q) (i := i))
            rw [hp, Option.map_some, Int.toNat_natCast] at HJ
            have e1 := hid (wh_some HJ.out)
            rw [Int.toNat_natCast, rnd_all] at e1
            obtain ⟨A7, c7, hu7⟩ := OwnI.len O3.out
            rw [hu7] at O3 ⊢
            clear h3 HO G s0 r0 hp hu7
            unfold plV
            go_wp2_with fail
            go_ret2
            exact ⟨.slice A7 (List.range j).length c7, by rw [HP.out, e1.out.2, List.length_range]; rfl, by rw [HR.out, e1.out.1]; exact OwnI.down O3.out z0, G3.out.bel⟩
    by_cases k3 : k = 3
    · subst k3
      clear k1
      go_wp2_with fail
      clear r0 r1
      by_cases hi1 : 1 ≤ i
      · obtain ⟨y, rfl⟩ : ∃ y : Nat, i = y := ⟨i.toNat, by omega⟩
        have ty : (0 : Int) < (y : Int) := by omega
        have tm : (0 : Int) < (m : Int) := by omega
        go_loopw [7, 9] (fun u v wr => ∃ j : Nat, j ≤ 3 ∧ v = .int .i64 (j : Nat) ∧ z ≤ wr.heap.size ∧ Hid (OwnI wr z u (rnd m y j)) ∧ Hid (GW w gg gw m q 3 y x wr)) (fun _ v _ => 3 - (intOf v).toNat)
        case atStart => exact ⟨0, Nat.zero_le _, rfl, z3, hid (ownI_nil _ _), G2⟩
        case round =>
          clear G2 z3
          obtain ⟨j, hj, rfl, hzw, HO, G⟩ := hrel
          have s0 := G.out.g0
          by_cases hgo : j < 3
          · have t1 : (j : Int) < 3 := by omega
            obtain ⟨v0, hv0⟩ : ∃ v0, v0 = (y + j) % m := ⟨_, rfl⟩
            have HV := hid hv0
            have HX := hid (show ((y % m + j : Nat)) % m = v0 by rw [hv0, Nat.mod_add_mod])
            obtain ⟨y1, hy1⟩ : ∃ y1, y1 = y % m := ⟨_, rfl⟩
            rw [← hy1] at HX
            have hy1m : y1 < m := by rw [hy1]; exact Nat.mod_lt _ (by omega)
            have EY := hid hy1
            clear hv0 hy1
            obtain ⟨A7, c7, hu7⟩ := OwnI.len HO.out
            rw [rnd_length] at hu7
            subst hu7
            have O7 := hid (ownX_I.2 HO.out)
            have LG := hid (show gg < z from z1)
            have VG := hid (show (Value.slice A7 j c7).ownBlock ≠ some gg from fun e => by have := (HO.out.lt gg e).1; omega)
            have LH := hid (show (rnd m y j).length = j from rnd_length m y j)
            have S0 := hid s0
            go_upto_region 16 with fail
            clear s0
            refine wp_region_c (S := yS [some (.slice A7 j c7), some (.int .i64 (y : Nat)), some (.pointer (some ⟨gg, 0, none⟩)), some (.int .i64 (m : Nat)), some (.int .i64 (y1 : Nat)), some (.int .i64 (j : Nat)), some (.int .i64 ((y1 + j : Nat) : Int)), some (.pointer (some ⟨gg, 0, none⟩)), some (.int .i64 (m : Nat)), some (.int .i64 (v0 : Nat)), none, none]
              [(10, kSl 1), (11, kSl (j + 1))]) (C := fun d vs w' => ApC 3 1 natL wr (.slice A7 j c7) (rnd m y j) v0 (d 10) (d 11) (vs 10) (vs 11) w') 12 (by kernel_rfl) (by kernel_rfl) (by kernel_rfl) _
              (yS_ok _ fun y hy => by simp only [List.mem_cons, List.not_mem_nil, or_false] at hy; rcases hy with rfl | rfl <;> exact kSl_ok _) ⟨Turn.drew _, fun _ => (Below.refl _ _).drew, (fun e => by cases e), (fun e => by cases e)⟩ fun vs => ?_
            simp only [List.take_succ_cons, List.take_zero, List.drop_succ_cons, List.drop_zero]
            refine ⟨.inl ⟨rfl, fun dd w' hd hnx hw hC => ?_⟩, fun e => ?_⟩
            · go_simp
              first | exact ⟨rfl, hC⟩ | exact hC
            have e' : vs 0 = _ := e
            rw [e']
            clear e e'
            simp only [Act.put, List.setIfInBounds_toArray, List.set_cons_succ, List.set_cons_zero]
            refine ⟨.inl ⟨rfl, fun dd w' hd hnx hw hC => ?_⟩, fun e => ?_⟩
            · go_simp
              first | exact ⟨rfl, hC⟩ | exact hC
            have e' : vs 1 = _ := e
            rw [e']
            clear e e'
            simp only [Act.put, List.setIfInBounds_toArray, List.set_cons_succ, List.set_cons_zero]
            refine ⟨.inl ⟨rfl, fun dd w' hd hnx hw hC => ?_⟩, fun e => ?_⟩
            · go_simp
              first | exact ⟨rfl, hC⟩ | exact hC
            have e' : vs 2 = _ := e
            rw [e']
            clear e e'
            simp only [Act.put, List.setIfInBounds_toArray, List.set_cons_succ, List.set_cons_zero]
            refine ⟨.inl ⟨rfl, fun dd w' hd hnx hw hC => ?_⟩, fun e => ?_⟩
            · have h1 : w'.cell? ⟨gg, 0, none⟩ = some (.int .i64 (m : Nat)) := hC.t.cell (p := ⟨gg, 0, none⟩) S0.out VG.out
              go_simp
              first | exact ⟨rfl, hC⟩ | exact hC
            have e' : vs 3 = _ := e
            rw [e']
            clear e e'
            simp only [Act.put, List.setIfInBounds_toArray, List.set_cons_succ, List.set_cons_zero]
            refine ⟨.inl ⟨rfl, fun dd w' hd hnx hw hC => ?_⟩, fun e => ?_⟩
            · have h0 : ¬ m = 0 := by omega
              have h1 : ((y : Nat) : Int).tmod ((m : Nat) : Int) = (y1 : Nat) := by rw [EY.out]; exact (Int.ofNat_tmod y m).symm
              go_simp
              first | exact ⟨rfl, hC⟩ | exact hC
            have e' : vs 4 = _ := e
            rw [e']
            clear e e'
            simp only [Act.put, List.setIfInBounds_toArray, List.set_cons_succ, List.set_cons_zero]
            refine ⟨.inl ⟨rfl, fun dd w' hd hnx hw hC => ?_⟩, fun e => ?_⟩
            · go_simp
              first | exact ⟨rfl, hC⟩ | exact hC
            have e' : vs 5 = _ := e
            rw [e']
            clear e e'
            simp only [Act.put, List.setIfInBounds_toArray, List.set_cons_succ, List.set_cons_zero]
            refine ⟨.inl ⟨rfl, fun dd w' hd hnx hw hC => ?_⟩, fun e => ?_⟩
            · have h1 : IntKind.i64.wrap ((y1 : Int) + (j : Int)) = (y1 : Int) + (j : Int) := IntWalk.i64_in _ (by omega)
              go_simp
              first | exact ⟨rfl, hC⟩ | exact hC
            have e' : vs 6 = _ := e
            rw [e']
            clear e e'
            simp only [Act.put, List.setIfInBounds_toArray, List.set_cons_succ, List.set_cons_zero]
            refine ⟨.inl ⟨rfl, fun dd w' hd hnx hw hC => ?_⟩, fun e => ?_⟩
            · go_simp
              first | exact ⟨rfl, hC⟩ | exact hC
            have e' : vs 7 = _ := e
            rw [e']
            clear e e'
            simp only [Act.put, List.setIfInBounds_toArray, List.set_cons_succ, List.set_cons_zero]
            refine ⟨.inl ⟨rfl, fun dd w' hd hnx hw hC => ?_⟩, fun e => ?_⟩
            · have h1 : w'.cell? ⟨gg, 0, none⟩ = some (.int .i64 (m : Nat)) := hC.t.cell (p := ⟨gg, 0, none⟩) S0.out VG.out
              go_simp
              first | exact ⟨rfl, hC⟩ | exact hC
            have e' : vs 8 = _ := e
            rw [e']
            clear e e'
            simp only [Act.put, List.setIfInBounds_toArray, List.set_cons_succ, List.set_cons_zero]
            refine ⟨.inl ⟨rfl, fun dd w' hd hnx hw hC => ?_⟩, fun e => ?_⟩
            · have h0 : ¬ m = 0 := by omega
              have h1 : ((y1 : Int) + (j : Int)).tmod ((m : Nat) : Int) = (v0 : Nat) := by rw [← HX.out]; exact (Int.ofNat_tmod (y1 + j) m).symm
              go_simp
              first | exact ⟨rfl, hC⟩ | exact hC
            have e' : vs 9 = _ := e
            rw [e']
            clear e e'
            simp only [Act.put, List.setIfInBounds_toArray, List.set_cons_succ, List.set_cons_zero]
            refine ⟨.inl ⟨rfl, fun dd w' hd hnx hw hC => ?_⟩, fun e => ?_⟩
            · have h8 : dd 11 = false := hnx 11 (by kernel_rfl)
              have ha := (Below.refl w'.heap.size w').alloc (Nat.le_refl _) (.cells (natL v0).toArray 3)
              have hbl := hC.b h8
              exact gE_lit1 (x := v0) eltNat undNat (by omega) rfl rfl ⟨⟨_, _, rfl⟩, hC.t.trans (Turn.of_new (S := fun _ => False) ha) (fun _ e => e.elim), (fun _ => hbl.trans (ha.mono hbl.size)), (fun _ _ => ⟨_, _, rfl, sli_lit1 eltNat v0 w' hbl.size⟩), fun e => by
                have e' : dd 11 = true := e
                rw [h8] at e'; cases e'⟩
            obtain ⟨A8, c8, e'⟩ : ∃ (A : Option Addr) (c : Nat), vs 10 = .slice A 1 c := e
            rw [e']
            have E8 := hid e'
            clear e'
            simp only [Act.put, List.setIfInBounds_toArray, List.set_cons_succ, List.set_cons_zero]
            refine ⟨.inl ⟨rfl, fun dd w' hd hnx hw hC => ?_⟩, fun e => ?_⟩
            · have h7 : dd 10 = true := hw 10 (by kernel_rfl)
              have hbl := hC.b hd
              obtain ⟨A', c', f, sl⟩ := hC.lit h7 hd
              rw [E8.out] at f
              cases f
              refine gE_appW eltNat undNat (B := 0) (v := .slice A7 j c7) (l := rnd m y j) (m := [v0]) rfl rfl ((O7.out.lower (Nat.zero_le _)).below hbl (Nat.le_refl _)) sl (by have := LH.out; omega) (by omega) (Nat.zero_le _) fun v' w4 o4 g4 wh => ?_
              obtain ⟨A4, c4, rfl, _⟩ := o4.sli eltNat.len
              refine ⟨⟨A4, c4, by rw [List.length_append, LH.out]; rfl⟩, ?_⟩
              exact ⟨(Turn.of_new (S := fun b => (Value.slice A7 j c7).ownBlock = some b) hbl).trans (Turn.of_grown (S := fun b => (Value.slice A7 j c7).ownBlock = some b) g4 fun b e => e) (fun b e => .inl e), (fun e => by cases e), (fun _ e => by cases e), fun _ => ⟨o4, fun b e => by
                have e3 : (Value.slice A4 (rnd m y j ++ [v0]).length c4).ownBlock = some b := e
                rcases wh with x | x
                · exact .inl (x.symm.trans e3)
                · rw [x] at e3; cases e3; exact .inr hbl.size⟩⟩
            obtain ⟨A9, c9, e'⟩ : ∃ (A : Option Addr) (c : Nat), vs 11 = .slice A (j + 1) c := e
            rw [e']
            have E9 := hid e'
            clear e'
            simp only [Act.put, List.setIfInBounds_toArray, List.set_cons_succ, List.set_cons_zero]
            intro dd w4 hall hC
            obtain ⟨o4, wh⟩ := hC.own (hall 11 (by omega))
            rw [E9.out] at o4 wh
            have T4 := hC.t
            have G4 := hid (G.out.turn T4 VG.out (fun e => by have := (HO.out.lt gw e).1; omega) fun q e => Nat.le_trans z0 (HO.out.lt q e).1)
            have hz4 := Nat.le_trans hzw T4.size
            have O4 := hid (show OwnI w4 z (.slice A9 (j + 1) c9) (rnd m y (j + 1)) from by
              rw [rnd_succ, ← HV.out]
              exact ownX_I.1 ⟨o4.1, o4.2.imp id fun ⟨g, cap, cur, hv, hb, rest⟩ => ⟨g, cap, cur, hv, by
                rcases wh g (by rw [hv]; rfl) with e | e
                · exact (HO.out.lt g e).1
                · exact Nat.le_trans hzw e, rest⟩⟩)
            clear o4 wh T4 hC hall E8 E9 G HO O7 S0 VG HV HX EY
            go_wp2_with fail
            go_roundw
            case rel => exact ⟨j + 1, by omega, by go_num, hz4, O4, G4⟩
            case measure => simp [intOf] <;> omega
          · have ej : j = 3 := by omega
            subst ej
            have r0 := wr_k G.out.wr
            clear hgo hj
            go_wp2_with ((with_reducible apply ldR (cs := #[Value.int .i64 m, .int .i64 q]) (tGe _ _)); rfl; exact G.out.geo.whole)
            refine (rplace_any m q 3 y wr).mono ?_
            rintro e w3 ⟨rfl, h3⟩
            have G3 := hid (G.out.on h3)
            cases hp : pl m q 3 y with
            | none =>
              have hn : hom m q 3 y = none := by rw [hom_3, hp]; rfl
              have e1 := hid (wh_none hn)
              clear hn hp h3 G HO s0 r0
              unfold plV
              go_wp2_with fail
              go_ret2
              exact ⟨.slice none 0 0, by rw [HP.out, e1.out.2]; rfl, by rw [HR.out, e1.out.1]; exact ownI_nil _ _, G3.out.bel⟩
            | some p =>
              have O3 := hid (HO.out.below h3 (Nat.le_refl _))
              have HJ := hid (hom_3 (a := m) (b := q) (i := y))
              rw [hp, Option.map_some, Int.toNat_natCast] at HJ
              have e1 := hid (wh_some HJ.out)
              rw [Int.toNat_natCast] at e1
              obtain ⟨A7, c7, hu7⟩ := OwnI.len O3.out
              rw [hu7] at O3 ⊢
              clear h3 HO G s0 r0 hp hu7
              unfold plV
              go_wp2_with fail
              go_ret2
              exact ⟨.slice A7 (rnd m y 3).length c7, by rw [HP.out, e1.out.2, rnd_length]; rfl, by rw [HR.out, e1.out.1]; exact OwnI.down O3.out z0, G3.out.bel⟩
      · have ti : ¬ (0 : Int) < i := by omega
        have tm : (0 : Int) < (m : Int) := by omega
        have hp : pl m q 3 i = none := pl_none fun e => by have : ((GeM.lw 3 : Nat) : Int) = 1 := rfl; omega
        have hn : hom m q 3 i = none := by rw [hom_3, hp]; rfl
        have e1 := hid (wh_none hn)
        clear hn
        go_loopw [7, 9] (fun u v wr => u = .slice none 0 0 ∧ v = .int .i64 0 ∧ Hid (GW w gg gw m q 3 i x wr)) (fun _ v _ => 3 - (intOf v).toNat)
        case atStart => exact ⟨rfl, rfl, G2⟩
        case round =>
          clear G2 z3
          obtain ⟨rfl, rfl, G⟩ := hrel
          have s0 := G.out.g0
          have r0 := wr_k G.out.wr
          have ti2 : decide ((0 : Int) < i) = false := decide_eq_false ti
          go_wp2_with ((with_reducible apply ldR (cs := #[Value.int .i64 m, .int .i64 q]) (tGe _ _)); rfl; exact G.out.geo.whole)
          refine (rplace_any m q 3 i wr).mono ?_
          rintro e w3 ⟨rfl, h3⟩
          have G3 := hid (G.out.on h3)
          rw [hp]
          clear hp h3 G s0 r0
          unfold plV
          go_wp2_with fail
          go_ret2
          exact ⟨.slice none 0 0, by rw [HP.out, e1.out.2]; rfl, by rw [HR.out, e1.out.1]; exact ownI_nil _ _, G3.out.bel⟩
    by_cases k4 : k = 4
    · subst k4
      clear k1 k3
      go_wp2_with ((with_reducible apply ldR (cs := #[Value.int .i64 m, .int .i64 q]) (tGe _ _)); rfl; exact G2.out.geo.whole)
      refine (rat_any m q i HI.out.2 w2).mono ?_
      rintro e w3 ⟨rfl, h3⟩
      have G3 := hid (G2.out.on h3)
      have hz3 := Nat.le_trans z3 h3.size
      clear h3 G2 r0 r1 z3
      by_cases ho : Om m q i (L lv m q)
      · obtain ⟨m', q', y, e1, e2, rfl, hg', hy⟩ := om_nat ho
        have H4 := hid (hom_4 ho)
        rw [L_good HG.out] at hy
        rw [atP_ok HG.out hy]
        obtain ⟨s, hs⟩ : ∃ s, s = y / m := ⟨_, rfl⟩
        obtain ⟨t, ht⟩ : ∃ t, t = y % m := ⟨_, rfl⟩
        have HT := hid (show t < m by rw [ht]; exact Nat.mod_lt _ (by omega))
        rw [Int.toNat_natCast, Int.toNat_natCast, ← hs, ← ht] at H4
        rw [← hs, ← ht]
        unfold v3
        clear hs ht ho hg' hy e1 e2
        have r0 := wr_k G3.out.wr
        go_upto_region 23 with ((with_reducible apply wlit1 eltNat undNat (x := t)); omega; rfl; rfl)
        have B4 := (Below.refl w3.heap.size w3).alloc (Nat.le_refl _) (.cells (natL t).toArray 3)
        have G4 := hid (G3.out.on B4)
        have O4 := hid (show OwnI (w3.alloc (.cells (natL t).toArray 3)) z (.slice (some ⟨w3.heap.size, 0, none⟩) 1 1) [t] from own_nats [t] w3 hz3 (by unfold maxLen; simp))
        obtain ⟨gx, hgx⟩ : ∃ g, g = w3.heap.size := ⟨_, rfl⟩
        rw [← hgx] at O4 ⊢
        generalize World.alloc w3 _ = w4 at G4 O4 ⊢
        have r0 := wr_k G4.out.wr
        clear B4 G3 hz3 hgx
        go_wp2_with ((with_reducible apply ldR (cs := #[Value.int .i64 m, .int .i64 q]) (tGe _ _)); rfl; exact G4.out.geo.whole)
        refine (rplace_any m q 4 s w4).mono ?_
        rintro e w5 ⟨rfl, h5⟩
        have G5 := hid (G4.out.on h5)
        cases hp : pl m q 4 s with
        | none =>
          have e1 := hid (wh_none (H4.out.trans (by rw [hp]; rfl)))
          clear hp h5 G4 O4 r0 H4
          unfold plV
          go_wp2_with fail
          go_ret2
          exact ⟨.slice none 0 0, by rw [HP.out, e1.out.2]; rfl, by rw [HR.out, e1.out.1]; exact ownI_nil _ _, G5.out.bel⟩
        | some p =>
          have O5 := hid (O4.out.below h5 (Nat.le_refl _))
          have e1 := hid (wh_some (H4.out.trans (by rw [hp]; rfl)))
          rw [Int.toNat_natCast, show rnd m t 1 = [t] by
            rw [rnd_succ]
            show [] ++ [(t + 0) % m] = [t]
            rw [List.nil_append, Nat.add_zero, Nat.mod_eq_of_lt HT.out]] at e1
          clear h5 O4 G4 r0 hp H4
          unfold plV
          go_wp2_with fail
          go_ret2
          exact ⟨_, by rw [HP.out, e1.out.2]; rfl, by rw [HR.out, e1.out.1]; exact OwnI.down O5.out z0, G5.out.bel⟩
      · have e1 := hid (wh_none (hom_4n ho))
        rw [atP_no ho]
        unfold v3
        clear ho
        go_wp2_with fail
        go_ret2
        exact ⟨.slice none 0 0, by rw [HP.out, e1.out.2]; rfl, by rw [HR.out, e1.out.1]; exact ownI_nil _ _, G3.out.bel⟩
    · have e1 := hid (wh_none (hom_o (a := m) (b := q) (i := i) k1 k3 k4))
      have j1 : (k == 1) = false := by simp [k1]
      have j3 : (k == 3) = false := by simp [k3]
      have j4 : (k == 4) = false := by simp [k4]
      go_wp2_with fail
      go_ret2
      exact ⟨.slice none 0 0, by rw [HP.out, e1.out.2]; rfl, by rw [HR.out, e1.out.1]; exact ownI_nil _ _, G2.out.bel⟩
  · rw [if_neg hg]
    have e1 := hid (wh_none (hom_bad (k := k) (i := i) hg))
    clear hg
    go_wp2_with fail
    go_ret2
    exact ⟨.slice none 0 0, by rw [HP.out, e1.out.2]; rfl, by rw [HR.out, e1.out.1]; exact ownI_nil _ _, G2.out.bel⟩
end MiM
end Go.Proofs.Ytijgbbeplojinaa
set_option maxRecDepth 100000
namespace Go.Proofs.Ytijgbbeplojinaa
open Go.ChangeShapes Go.WideShapes Go.ChangeAt Go.RowKit
attribute [local go_sem] Gives
namespace StM
section
variable {w : World}
/-- Two lists of ints of one's own, compared. -/
theorem rints_any {B1 B2 : Nat} {A1 A2 : Option Addr} {c1 c2 : Nat} {l1 l2 : List Nat} (h1 : OwnI w B1 (.slice A1 l1.length c1) l1) (h2 : OwnI w B2 (.slice A2 l2.length c2) l2) (hl1 : l1.length ≤ 1000) (hl2 : l2.length ≤ 1000) :
    Calls Try.prog 12 #[.slice A1 l1.length c1, .slice A2 l2.length c2] w fun e w' => e = .returned (.bool (decide (l1 = l2))) ∧ Below w.heap.size w w' := by
  have HO1 := hid h1
  have HO2 := hid h2
  clear h1 h2
  obtain ⟨q, hq⟩ : ∃ q, q = decide (l1 = l2) := ⟨_, rfl⟩
  have HQ := hid hq
  rw [← hq]
  clear hq
  by_cases hlen : l1.length = l2.length
  · obtain ⟨n, hn⟩ : ∃ n, n = l1.length := ⟨_, rfl⟩
    have L1 := hid hn
    have L2 := hid (hn.trans hlen)
    rw [← hlen, ← hn]
    rw [← hn] at hl1
    have hgap := hid (show (∀ i, i < n → l1.getD i 0 = l2.getD i 0) → l1 = l2 from fun h => List.ext_getElem? fun i => by
      by_cases hi : i < n
      · have := h i hi
        rw [List.getD_eq_getElem?_getD, List.getD_eq_getElem?_getD, List.getElem?_eq_getElem (by omega), List.getElem?_eq_getElem (by omega), Option.getD_some, Option.getD_some] at this
        rw [List.getElem?_eq_getElem (by omega), List.getElem?_eq_getElem (by omega), this]
      · rw [List.getElem?_eq_none (by omega), List.getElem?_eq_none (by omega)])
    clear hn hlen hl2
    go_enter Try.func12, Try.ntmps12
    go_wp2_with fail
    go_loopw [5] (fun u wr => ∃ k : Nat, u = .int .i64 k ∧ k ≤ n ∧ Hid (Below w.heap.size w wr) ∧ Hid (∀ i, i < k → l1.getD i 0 = l2.getD i 0)) (fun u _ => n - (intOf u).toNat)
    case atStart => exact ⟨0, rfl, Nat.zero_le _, hid (Below.refl _ _), hid fun i hi => absurd hi (Nat.not_lt_zero _)⟩
    case round =>
      obtain ⟨k, rfl, hk, HB, HM⟩ := hrel
      by_cases hgo : k < n
      · have t1 : (k : Int) < n := by omega
        obtain ⟨g1, c1', e1, r1⟩ := OwnI.get (HO1.out) (j := k) (by rw [← L1.out]; exact hgo)
        obtain ⟨g2, c2', e2, r2⟩ := OwnI.get (HO2.out) (j := k) (by rw [← L2.out]; exact hgo)
        simp only [Value.slice.injEq] at e1 e2
        obtain ⟨rfl, _, rfl⟩ := e1
        obtain ⟨rfl, _, rfl⟩ := e2
        have k1 := r1 k (by rw [← L1.out]; exact hgo)
        have k2 := r2 k (by rw [← L2.out]; exact hgo)
        obtain ⟨x, hx⟩ : ∃ x, x = l1.getD k 0 := ⟨_, rfl⟩
        obtain ⟨y, hy⟩ : ∃ y, y = l2.getD k 0 := ⟨_, rfl⟩
        rw [← hx] at k1
        rw [← hy] at k2
        have K1 := hid (show ∀ w', Below w.heap.size w w' → w'.cell? ⟨g1, k, none⟩ = some (.int .i64 x) from fun w' h => (h.cell (p := ⟨g1, k, none⟩) (World.block_lt_of_cell? w _ k1)).trans k1)
        have K2 := hid (show ∀ w', Below w.heap.size w w' → w'.cell? ⟨g2, k, none⟩ = some (.int .i64 y) from fun w' h => (h.cell (p := ⟨g2, k, none⟩) (World.block_lt_of_cell? w _ k2)).trans k2)
        have X := hid hx
        have Y := hid hy
        clear r1 r2 k1 k2 hx hy
        go_wp2_with fail
        refine wp_region_tail (C := fun w' => Below w.heap.size w w') 9 (by kernel_rfl) (by kernel_rfl) (by kernel_rfl) HB.out.drew ?_
        simp only [List.take_succ_cons, List.take_zero, List.drop_succ_cons, List.drop_zero]
        apply wpK_val
        · rfl
        · intro w' hw'
          go_simp
          first | exact rfl | exact ⟨rfl, hw'⟩
        simp only [Act.put, List.setIfInBounds_toArray, List.set_cons_succ, List.set_cons_zero]
        apply wpK_val
        · rfl
        · intro w' hw'
          go_simp
          first | exact rfl | exact ⟨rfl, hw'⟩
        simp only [Act.put, List.setIfInBounds_toArray, List.set_cons_succ, List.set_cons_zero]
        apply wpK_val
        · rfl
        · intro w' hw'
          go_simp
          first | exact rfl | exact ⟨rfl, hw'⟩
        simp only [Act.put, List.setIfInBounds_toArray, List.set_cons_succ, List.set_cons_zero]
        apply wpK_val
        · rfl
        · intro w' hw'
          have hcell := K1.out w' hw'
          go_simp
          first | exact rfl | exact ⟨rfl, hw'⟩
        simp only [Act.put, List.setIfInBounds_toArray, List.set_cons_succ, List.set_cons_zero]
        apply wpK_val
        · rfl
        · intro w' hw'
          go_simp
          first | exact rfl | exact ⟨rfl, hw'⟩
        simp only [Act.put, List.setIfInBounds_toArray, List.set_cons_succ, List.set_cons_zero]
        apply wpK_val
        · rfl
        · intro w' hw'
          go_simp
          first | exact rfl | exact ⟨rfl, hw'⟩
        simp only [Act.put, List.setIfInBounds_toArray, List.set_cons_succ, List.set_cons_zero]
        apply wpK_val
        · rfl
        · intro w' hw'
          go_simp
          first | exact rfl | exact ⟨rfl, hw'⟩
        simp only [Act.put, List.setIfInBounds_toArray, List.set_cons_succ, List.set_cons_zero]
        apply wpK_val
        · rfl
        · intro w' hw'
          have hcell := K2.out w' hw'
          go_simp
          first | exact rfl | exact ⟨rfl, hw'⟩
        simp only [Act.put, List.setIfInBounds_toArray, List.set_cons_succ, List.set_cons_zero]
        by_cases hxy : x = y
        · have t2 : ((x : Int) != (y : Int)) = false := by rw [hxy]; simp
          have T2 := hid t2
          have XY := hid hxy
          clear t2 hxy
          apply wpK_val
          · rfl
          · intro w' hw'
            have h1 : _ = _ := T2.out
            go_simp
            first | exact rfl | exact ⟨rfl, hw'⟩
          simp only [Act.put, List.setIfInBounds_toArray, List.set_cons_succ, List.set_cons_zero]
          refine wpK_nil fun w2 hw2 => ?_
          have B2 := hid hw2
          clear hw2
          go_wp2_with fail
          go_roundw
          case rel =>
            refine ⟨k + 1, by go_num, by omega, B2, hid fun i hi => ?_⟩
            by_cases e : i = k
            · rw [e, ← X.out, ← Y.out, XY.out]
            · exact HM.out i (by omega)
          case measure => simp [intOf] <;> omega
        · have t2 : ((x : Int) != (y : Int)) = true := by rw [bne_iff_ne]; omega
          have hf := hid (show decide (l1 = l2) = false from decide_eq_false fun e => hxy (by rw [X.out, Y.out, e]))
          have T2 := hid t2
          clear t2 hxy
          apply wpK_val
          · rfl
          · intro w' hw'
            have h1 : _ = _ := T2.out
            go_simp
            first | exact rfl | exact ⟨rfl, hw'⟩
          simp only [Act.put, List.setIfInBounds_toArray, List.set_cons_succ, List.set_cons_zero]
          refine wpK_nil fun w2 hw2 => ?_
          have B2 := hid hw2
          clear hw2
          go_wp2_with fail
          go_ret
          exact ⟨by rw [HQ.out, hf.out]; rfl, B2.out⟩
      · have t1 : ¬ (k : Int) < n := by omega
        have hkn := hid (show n = k by omega)
        have hf := hid (show decide (l1 = l2) = true from decide_eq_true (hgap.out fun i hi => HM.out i (by rw [hkn.out] at hi; exact hi)))
        go_wp2_with fail
        go_ret
        exact ⟨by rw [HQ.out, hf.out]; rfl, HB.out⟩
  · have hf := hid (show decide (l1 = l2) = false from decide_eq_false fun e => hlen (by rw [e]))
    have t1 : (((l1.length : Nat) : Int) != ((l2.length : Nat) : Int)) = true := by rw [bne_iff_ne]; omega
    have t2 : ¬ l1.length = l2.length := hlen
    go_enter Try.func12, Try.ntmps12
    go_wp2_with fail
    go_ret
    exact ⟨by rw [HQ.out, hf.out]; rfl, Below.refl _ _⟩
end
end StM
end Go.Proofs.Ytijgbbeplojinaa
set_option maxRecDepth 100000
namespace Go.Proofs.Ytijgbbeplojinaa
open Go.ChangeShapes Go.WideShapes Go.ChangeAt Go.RowKit
section
variable {α : Type} {k : Nat} {en : α → List Value} {E L : TypeId}
theorem run_lit3 (hE : EltX E k en) (hu : Try.prog.underlying L = some (.slice E)) (x y z : α) {v u s : Value} (hv : v.cells.toList = en x) (hy : u.cells.toList = en y) (hz' : s.cells.toList = en z) (hk : k ≤ 1000) (w : World) :
    (Instr.buildSlice L 3 #[(0, v), (1, u), (2, s)]).run Try.prog w = .ok (.slice (some ⟨w.heap.size, 0, none⟩) 3 3) (w.alloc (.cells (en x ++ (en y ++ en z)).toArray E)) := by
  obtain ⟨ie, zz, hi, hz, h1, h2, h3⟩ := hE.info
  refine run_buildSlice w L E 3 _ _ ie zz hu hi hz (by rw [h1]; omega) (by rw [h1]; have := hE.pos; omega) ?_
  have hcs : v.cells.size = k := by rw [← Array.length_toList, hv, hE.len]
  have hcu : u.cells.size = k := by rw [← Array.length_toList, hy, hE.len]
  have hcz : s.cells.size = k := by rw [← Array.length_toList, hz', hE.len]
  have := fill_consec (place := fun i => some (i * ie.size, ie.size)) [v, u, s] [(0, k), (k, k), (2 * k, k)] [] (((Array.range (3 * ie.size)).map (zz.cells[· % zz.cells.size]!)).toList) 0 ⟨rfl, by simp, by simp; omega, trivial⟩ (by simp [hcs, hcu, hcz]) (by simp [h1]; omega) (fun j hj => by
    have : j = 0 ∨ j = 1 ∨ j = 2 := by simp at hj; omega
    rcases this with rfl | rfl | rfl
    · simp [h1]
    · simp [h1]
    · simp [h1])
  simp only [List.nil_append, List.map_cons, List.map_nil, List.sum_cons, List.sum_nil, Nat.add_zero, List.flatMap_cons, List.flatMap_nil, List.append_nil, hv, hy, hz'] at this
  rw [List.drop_eq_nil_of_le (by simp [h1]; omega), List.append_nil, Array.toArray_toList] at this
  exact this
variable {ops : Array Oper} {Q : Exit → Act → World → Prop} {a : Act} {w : World} {rest : List Oper} {dst : Option Tmp} {ty : TypeId} {pos : String} {after : Array Edge} {o p q : Operand} {x y z : α} {v u s : Value}
theorem wlit3 (hE : EltX E k en) (hu : Try.prog.underlying L = some (.slice E)) (hk : k ≤ 1000) (ho : a.eval o = v) (hp : a.eval p = u) (hq : a.eval q = s) (hv : v.cells.toList = en x) (hy : u.cells.toList = en y) (hz : s.cells.toList = en z)
    (h : wpList Try.prog ops Q rest (a.put dst (.slice (some ⟨w.heap.size, 0, none⟩) 3 3)) (w.alloc (.cells (en x ++ (en y ++ en z)).toArray E))) :
    wpList Try.prog ops Q (⟨dst, .buildSlice L 3 #[(0, o), (1, p), (2, q)], ty, pos, after, none⟩ :: rest) a w := by
  have hm : (#[(0, o), (1, p), (2, q)] : Array (Nat × Operand)).map (fun (i, x) => (i, a.eval x)) = #[(0, v), (1, u), (2, s)] := by
    simp only [List.map_toArray, List.map_cons, List.map_nil, ho, hp, hq]
  refine wpList_plain rfl fun K hK => ?_
  unfold Oper.wp execOp
  simp only [Sem.run_bind, hm, run_lit3 hE hu x y z hv hy hz hk w, Result.andThen_ok, Sem.run_pure]
  exact hK _ _ h
end
end Go.Proofs.Ytijgbbeplojinaa
set_option maxRecDepth 100000
namespace Go.Proofs.Ytijgbbeplojinaa
open Go.ChangeShapes Go.WideShapes Go.ChangeAt Go.RowKit
section
variable {α : Type} {k : Nat} {en : α → List Value} {E L : TypeId}
theorem run_lit4 (hE : EltX E k en) (hu : Try.prog.underlying L = some (.slice E)) (x y z t : α) {v u s r : Value} (hv : v.cells.toList = en x) (hy : u.cells.toList = en y) (hz' : s.cells.toList = en z) (hr : r.cells.toList = en t) (hk : k ≤ 1000) (w : World) :
    (Instr.buildSlice L 4 #[(0, v), (1, u), (2, s), (3, r)]).run Try.prog w = .ok (.slice (some ⟨w.heap.size, 0, none⟩) 4 4) (w.alloc (.cells (en x ++ (en y ++ (en z ++ en t))).toArray E)) := by
  obtain ⟨ie, zz, hi, hz, h1, h2, h3⟩ := hE.info
  refine run_buildSlice w L E 4 _ _ ie zz hu hi hz (by rw [h1]; omega) (by rw [h1]; have := hE.pos; omega) ?_
  have hcs : v.cells.size = k := by rw [← Array.length_toList, hv, hE.len]
  have hcu : u.cells.size = k := by rw [← Array.length_toList, hy, hE.len]
  have hcz : s.cells.size = k := by rw [← Array.length_toList, hz', hE.len]
  have hct : r.cells.size = k := by rw [← Array.length_toList, hr, hE.len]
  have := fill_consec (place := fun i => some (i * ie.size, ie.size)) [v, u, s, r] [(0, k), (k, k), (2 * k, k), (3 * k, k)] [] (((Array.range (4 * ie.size)).map (zz.cells[· % zz.cells.size]!)).toList) 0 ⟨rfl, by simp, by simp; omega, by simp; omega, trivial⟩ (by simp [hcs, hcu, hcz, hct]) (by simp [h1]; omega) (fun j hj => by
    have : j = 0 ∨ j = 1 ∨ j = 2 ∨ j = 3 := by simp at hj; omega
    rcases this with rfl | rfl | rfl | rfl
    · simp [h1]
    · simp [h1]
    · simp [h1]
    · simp [h1])
  simp only [List.nil_append, List.map_cons, List.map_nil, List.sum_cons, List.sum_nil, Nat.add_zero, List.flatMap_cons, List.flatMap_nil, List.append_nil, hv, hy, hz', hr] at this
  rw [List.drop_eq_nil_of_le (by simp [h1]; omega), List.append_nil, Array.toArray_toList] at this
  exact this
variable {ops : Array Oper} {Q : Exit → Act → World → Prop} {a : Act} {w : World} {rest : List Oper} {dst : Option Tmp} {ty : TypeId} {pos : String} {after : Array Edge} {o p q b : Operand} {x y z t : α} {v u s r : Value}
theorem wlit4 (hE : EltX E k en) (hu : Try.prog.underlying L = some (.slice E)) (hk : k ≤ 1000) (ho : a.eval o = v) (hp : a.eval p = u) (hq : a.eval q = s) (hb : a.eval b = r) (hv : v.cells.toList = en x) (hy : u.cells.toList = en y) (hz : s.cells.toList = en z) (hr : r.cells.toList = en t)
    (h : wpList Try.prog ops Q rest (a.put dst (.slice (some ⟨w.heap.size, 0, none⟩) 4 4)) (w.alloc (.cells (en x ++ (en y ++ (en z ++ en t))).toArray E))) :
    wpList Try.prog ops Q (⟨dst, .buildSlice L 4 #[(0, o), (1, p), (2, q), (3, b)], ty, pos, after, none⟩ :: rest) a w := by
  have hm : (#[(0, o), (1, p), (2, q), (3, b)] : Array (Nat × Operand)).map (fun (i, x) => (i, a.eval x)) = #[(0, v), (1, u), (2, s), (3, r)] := by
    simp only [List.map_toArray, List.map_cons, List.map_nil, ho, hp, hq, hb]
  refine wpList_plain rfl fun K hK => ?_
  unfold Oper.wp execOp
  simp only [Sem.run_bind, hm, run_lit4 hE hu x y z t hv hy hz hr hk w, Result.andThen_ok, Sem.run_pure]
  exact hK _ _ h
end
end Go.Proofs.Ytijgbbeplojinaa
set_option maxRecDepth 100000
namespace Go.Proofs.Ytijgbbeplojinaa
open Go.ChangeShapes Go.WideShapes Go.ChangeAt Go.RowKit
attribute [local go_sem] Gives GivesE
namespace MiM
open GeM
set_option maxHeartbeats 400000 in
theorem given19_any (w : World) : Calls Try.prog 51 #[] w fun e w' => e = .returned (gv 4 1) ∧ Below w.heap.size w w' := by
  go_enter Try.func51, Try.ntmps51
  go_wp2_with fail
  refine ret_row rfl (Blk.new _ _ _) Try.underlying23 rfl (by kernel_rfl) rfl rfl ?_
  exact ⟨rfl, below_al _⟩
/-- The sector of the laws' node. -/
def ndS (j : Nat) : Nat := if j = 0 then 5 else if j = 63 then 6 else 0
theorem built_nd : Try.prog.built 25 [(0, .int .u8 5), (63, .int .u8 6)] = some (ar 64 ndS) := by kernel_rfl
theorem built_wr (k i : Int) (x : Nat → Nat) : Try.prog.built 27 [(0, .int .i64 k), (1, .int .i64 i), (2, .agg (ar 64 x))] = some (wrL k i x).toArray := by kernel_rfl
theorem built_w0 (k i : Int) : Try.prog.built 27 [(0, .int .i64 k), (1, .int .i64 i)] = some (wrL k i fun _ => 0).toArray := by kernel_rfl
section
variable {ops : Array Oper} {Q : Exit → Act → World → Prop} {a : Act} {w : World} {rest : List Oper} {dst : Option Tmp} {ty : TypeId} {pos : String} {after : Array Edge} {T : TypeId} {parts : Array (Nat × Operand)} {vs : List (Nat × Value)} {cs : Array Value}
/-- A struct that is built of what is known. -/
theorem wblV (hb : Try.prog.built T vs = some cs) (hp : (parts.map fun (i, x) => (i, a.eval x)) = vs.toArray) (hk : wpList Try.prog ops Q rest (a.put dst (.agg cs)) w) : wpList Try.prog ops Q (⟨dst, .build T parts, ty, pos, after, none⟩ :: rest) a w := by
  have hr : (Instr.build T vs.toArray).run Try.prog w = .ok (.agg cs) w := run_build w _ _ _ hb
  refine wpList_plain rfl fun K hK => ?_
  unfold Oper.wp execOp
  simp only [Sem.run_bind, hp, hr, Result.andThen_ok, Sem.run_pure]
  exact hK _ _ hk
end
theorem wr_size (k i : Int) (x : Nat → Nat) (k' i' : Int) (x' : Nat → Nat) : (wrL k i x).toArray.size = (wrL k' i' x').toArray.size := by rw [List.size_toArray, List.size_toArray, wrL_len, wrL_len]
theorem wr_one (k i : Int) (x : Nat → Nat) : (wrL k i x).toArray.all (·.oneCell') = true := by
  rw [List.all_toArray, List.all_eq_true]
  intro v hv
  unfold wrL at hv
  rcases List.mem_cons.1 hv with rfl | hv
  · rfl
  rcases List.mem_cons.1 hv with rfl | hv
  · rfl
  obtain ⟨j, hj⟩ := List.mem_iff_getElem?.1 hv
  rw [Array.getElem?_toList] at hj
  have hj2 : j < (ar 64 x).size := (Array.getElem?_eq_some_iff.1 hj).1
  rw [size_ar] at hj2
  rw [get_ar hj2] at hj
  cases hj; rfl
theorem zWr (w : World) : (zeroValue tyW).run Try.prog w = .ok (.agg (wrL 0 0 fun _ => 0).toArray) w := (zero_of_info (P := Try.prog) (t := tyW) (v := .agg (wrL 0 0 fun _ => 0).toArray) (n := 66) (by kernel_rfl)).1 w
set_option maxHeartbeats 800000 in
theorem node19_any (i : Int) (w : World) : Calls Try.prog 52 #[.int .i64 i] w fun e w' => e = .returned (.agg (wrL 3 i ndS).toArray) ∧ Below w.heap.size w w' := by
  go_enter Try.func52, Try.ntmps52
  go_wp2_with (first | (with_reducible apply alZ' zWr) | ((with_reducible apply wblV built_nd); (simp only [List.map_toArray, List.map_cons, List.map_nil]; rfl)) | ((with_reducible apply wblV (built_wr 3 i ndS)); (simp only [List.map_toArray, List.map_cons, List.map_nil]; rfl)) | ((with_reducible apply stR (tWr 3 i ndS)); rfl; rfl; exact Blk.new _ _ _; exact wr_size _ _ _ _ _ _; exact wr_one _ _ _))
  refine ret_row' (tWr 3 i ndS) rfl rfl rfl ((Blk.new w _ _).setRow_same _) ?_
  exact ⟨rfl, below_setRow ((Below.refl _ _).alloc (Nat.le_refl _) _) (Nat.le_refl _) _⟩
set_option maxHeartbeats 1600000 in
theorem is19_any {w : World} {B1 B2 : Nat} {A1 A2 : Option Addr} {c1 c2 : Nat} {l1 l2 : List Nat} (h1 : OwnI w B1 (.slice A1 l1.length c1) l1) (h2 : OwnI w B2 (.slice A2 l2.length c2) l2) (hl1 : l1.length ≤ 1000) (_hl2 : l2.length ≤ 1000) :
    Calls Try.prog 19 #[.slice A1 l1.length c1, .slice A2 l2.length c2] w fun e w' => e = .returned (.bool (decide (l1 = l2))) ∧ Below w.heap.size w w' := by
  have HO1 := hid h1
  have HO2 := hid h2
  clear h1 h2
  obtain ⟨q, hq⟩ : ∃ q, q = decide (l1 = l2) := ⟨_, rfl⟩
  have HQ := hid hq
  rw [← hq]
  clear hq
  by_cases hlen : l1.length = l2.length
  · obtain ⟨n, hn⟩ : ∃ n, n = l1.length := ⟨_, rfl⟩
    have L1 := hid hn
    have L2 := hid (hn.trans hlen)
    rw [← hlen, ← hn]
    rw [← hn] at hl1
    have hgap := hid (show (∀ i, i < n → l1.getD i 0 = l2.getD i 0) → l1 = l2 from fun h => List.ext_getElem? fun i => by
      by_cases hi : i < n
      · have := h i hi
        rw [List.getD_eq_getElem?_getD, List.getD_eq_getElem?_getD, List.getElem?_eq_getElem (by omega), List.getElem?_eq_getElem (by omega), Option.getD_some, Option.getD_some] at this
        rw [List.getElem?_eq_getElem (by omega), List.getElem?_eq_getElem (by omega), this]
      · rw [List.getElem?_eq_none (by omega), List.getElem?_eq_none (by omega)])
    clear hn hlen
    go_enter Try.func19, Try.ntmps19
    go_wp2_with fail
    go_loopw [5] (fun u wr => ∃ k : Nat, u = .int .i64 k ∧ k ≤ n ∧ Hid (Below w.heap.size w wr) ∧ Hid (∀ i, i < k → l1.getD i 0 = l2.getD i 0)) (fun u _ => n - (intOf u).toNat)
    case atStart => exact ⟨0, rfl, Nat.zero_le _, hid (Below.refl _ _), hid fun i hi => absurd hi (Nat.not_lt_zero _)⟩
    case round =>
      obtain ⟨k, rfl, hk, HB, HM⟩ := hrel
      by_cases hgo : k < n
      · have t1 : (k : Int) < n := by omega
        obtain ⟨g1, c1', e1, r1⟩ := OwnI.get (HO1.out) (j := k) (by rw [← L1.out]; exact hgo)
        obtain ⟨g2, c2', e2, r2⟩ := OwnI.get (HO2.out) (j := k) (by rw [← L2.out]; exact hgo)
        simp only [Value.slice.injEq] at e1 e2
        obtain ⟨rfl, _, rfl⟩ := e1
        obtain ⟨rfl, _, rfl⟩ := e2
        have k1 := r1 k (by rw [← L1.out]; exact hgo)
        have k2 := r2 k (by rw [← L2.out]; exact hgo)
        obtain ⟨x, hx⟩ : ∃ x, x = l1.getD k 0 := ⟨_, rfl⟩
        obtain ⟨y, hy⟩ : ∃ y, y = l2.getD k 0 := ⟨_, rfl⟩
        rw [← hx] at k1
        rw [← hy] at k2
        have K1 := hid (show ∀ w', Below w.heap.size w w' → w'.cell? ⟨g1, k, none⟩ = some (.int .i64 x) from fun w' h => (h.cell (p := ⟨g1, k, none⟩) (World.block_lt_of_cell? w _ k1)).trans k1)
        have K2 := hid (show ∀ w', Below w.heap.size w w' → w'.cell? ⟨g2, k, none⟩ = some (.int .i64 y) from fun w' h => (h.cell (p := ⟨g2, k, none⟩) (World.block_lt_of_cell? w _ k2)).trans k2)
        have X := hid hx
        have Y := hid hy
        clear r1 r2 k1 k2 hx hy
        go_wp2_with fail
        refine wp_region_tail (C := fun w' => Below w.heap.size w w') 9 (by kernel_rfl) (by kernel_rfl) (by kernel_rfl) HB.out.drew ?_
        simp only [List.take_succ_cons, List.take_zero, List.drop_succ_cons, List.drop_zero]
        apply wpK_val
        · rfl
        · intro w' hw'
          go_simp
          first | exact rfl | exact ⟨rfl, hw'⟩
        simp only [Act.put, List.setIfInBounds_toArray, List.set_cons_succ, List.set_cons_zero]
        apply wpK_val
        · rfl
        · intro w' hw'
          go_simp
          first | exact rfl | exact ⟨rfl, hw'⟩
        simp only [Act.put, List.setIfInBounds_toArray, List.set_cons_succ, List.set_cons_zero]
        apply wpK_val
        · rfl
        · intro w' hw'
          go_simp
          first | exact rfl | exact ⟨rfl, hw'⟩
        simp only [Act.put, List.setIfInBounds_toArray, List.set_cons_succ, List.set_cons_zero]
        apply wpK_val
        · rfl
        · intro w' hw'
          have hcell := K1.out w' hw'
          go_simp
          first | exact rfl | exact ⟨rfl, hw'⟩
        simp only [Act.put, List.setIfInBounds_toArray, List.set_cons_succ, List.set_cons_zero]
        apply wpK_val
        · rfl
        · intro w' hw'
          go_simp
          first | exact rfl | exact ⟨rfl, hw'⟩
        simp only [Act.put, List.setIfInBounds_toArray, List.set_cons_succ, List.set_cons_zero]
        apply wpK_val
        · rfl
        · intro w' hw'
          go_simp
          first | exact rfl | exact ⟨rfl, hw'⟩
        simp only [Act.put, List.setIfInBounds_toArray, List.set_cons_succ, List.set_cons_zero]
        apply wpK_val
        · rfl
        · intro w' hw'
          go_simp
          first | exact rfl | exact ⟨rfl, hw'⟩
        simp only [Act.put, List.setIfInBounds_toArray, List.set_cons_succ, List.set_cons_zero]
        apply wpK_val
        · rfl
        · intro w' hw'
          have hcell := K2.out w' hw'
          go_simp
          first | exact rfl | exact ⟨rfl, hw'⟩
        simp only [Act.put, List.setIfInBounds_toArray, List.set_cons_succ, List.set_cons_zero]
        by_cases hxy : x = y
        · have t2 : ((x : Int) != (y : Int)) = false := by rw [hxy]; simp
          have T2 := hid t2
          have XY := hid hxy
          clear t2 hxy
          apply wpK_val
          · rfl
          · intro w' hw'
            have h1 : _ = _ := T2.out
            go_simp
            first | exact rfl | exact ⟨rfl, hw'⟩
          simp only [Act.put, List.setIfInBounds_toArray, List.set_cons_succ, List.set_cons_zero]
          refine wpK_nil fun w2 hw2 => ?_
          have B2 := hid hw2
          clear hw2
          go_wp2_with fail
          go_roundw
          case rel =>
            refine ⟨k + 1, by go_num, by omega, B2, hid fun i hi => ?_⟩
            by_cases e : i = k
            · rw [e, ← X.out, ← Y.out, XY.out]
            · exact HM.out i (by omega)
          case measure => simp [intOf] <;> omega
        · have t2 : ((x : Int) != (y : Int)) = true := by rw [bne_iff_ne]; omega
          have hf := hid (show decide (l1 = l2) = false from decide_eq_false fun e => hxy (by rw [X.out, Y.out, e]))
          have T2 := hid t2
          clear t2 hxy
          apply wpK_val
          · rfl
          · intro w' hw'
            have h1 : _ = _ := T2.out
            go_simp
            first | exact rfl | exact ⟨rfl, hw'⟩
          simp only [Act.put, List.setIfInBounds_toArray, List.set_cons_succ, List.set_cons_zero]
          refine wpK_nil fun w2 hw2 => ?_
          have B2 := hid hw2
          clear hw2
          go_wp2_with fail
          go_ret
          exact ⟨by rw [HQ.out, hf.out]; rfl, B2.out⟩
      · have t1 : ¬ (k : Int) < n := by omega
        have hkn := hid (show n = k by omega)
        have hf := hid (show decide (l1 = l2) = true from decide_eq_true (hgap.out fun i hi => HM.out i (by rw [hkn.out] at hi; exact hi)))
        go_wp2_with fail
        go_ret
        exact ⟨by rw [HQ.out, hf.out]; rfl, HB.out⟩
  · have hf := hid (show decide (l1 = l2) = false from decide_eq_false fun e => hlen (by rw [e]))
    have t1 : (((l1.length : Nat) : Int) != ((l2.length : Nat) : Int)) = true := by rw [bne_iff_ne]; omega
    have t2 : ¬ l1.length = l2.length := hlen
    go_enter Try.func19, Try.ntmps19
    go_wp2_with fail
    go_ret
    exact ⟨by rw [HQ.out, hf.out]; rfl, Below.refl _ _⟩
theorem aw_1 : whL 4 1 1 3 = [0, 1, 2, 3] := by decide +kernel
theorem aw_2 : whL 4 1 3 3 = [3, 0, 1] := by decide +kernel
theorem aw_3 : whL 4 1 4 2 = [2] := by decide +kernel
set_option maxHeartbeats 1600000 in
theorem awake19_any (w : World) : Calls Try.prog 14 #[] w fun e w' => e = .returned (.bool true) ∧ Below w.heap.size w w' := by
  go_enter Try.func14, Try.ntmps14
  go_wp2_with fail
  refine (given19_any _).mono ?_
  rintro e w1 ⟨rfl, h1⟩
  have B1 := hid h1
  clear h1
  unfold gv
  go_wp2_with ((with_reducible apply wblV (built_w0 1 3)); (simp only [List.map_toArray, List.map_cons, List.map_nil]; rfl))
  refine (where_any 4 1 1 3 (fun _ => 0) (by omega) w1).mono ?_
  rintro e w2 ⟨v, rfl, o2, h2⟩
  rw [aw_1] at o2
  obtain ⟨A2, c2, rfl⟩ := OwnI.len o2
  have O2 := hid o2
  have B2 := hid (B1.out.trans (h2.mono B1.out.size))
  clear o2 h2 B1
  have P2 := hid (own_nats [0, 1, 2, 3] w2 (Nat.le_refl _) (by unfold maxLen; simp))
  have b2 : Below w2.heap.size w2 (w2.alloc (.cells ([0, 1, 2, 3].map fun j : Nat => Value.int .i64 j).toArray 3)) := (Below.refl _ _).alloc (Nat.le_refl _) _
  have O3 := hid (O2.out.below b2 (Nat.le_refl _))
  have B3 := hid (B2.out.trans (b2.mono B2.out.size))
  clear b2
  go_wp2_with ((with_reducible apply wlit4 eltNat undNat (x := 0) (y := 1) (z := 2) (t := 3)); omega; rfl; rfl; rfl; rfl; rfl; rfl; rfl; rfl)
  refine (is19_any O3.out P2.out (by simp) (by simp)).mono ?_
  rintro e w3 ⟨rfl, h3⟩
  rw [decide_eq_true rfl]
  have B4 := hid (B3.out.trans (h3.mono B3.out.size))
  clear h3 B2 B3 O2 O3 P2
  go_wp2_with fail
  refine (given19_any _).mono ?_
  rintro e w4 ⟨rfl, h1⟩
  have B5 := hid (B4.out.trans (h1.mono B4.out.size))
  clear h1 B4
  unfold gv
  go_wp2_with fail
  refine (node19_any 3 _).mono ?_
  rintro e w5 ⟨rfl, h1⟩
  have B1 := hid (B5.out.trans (h1.mono B5.out.size))
  clear h1 B5
  go_wp2_with fail
  refine (where_any 4 1 3 3 ndS (by omega) w5).mono ?_
  rintro e w6 ⟨v, rfl, o2, h2⟩
  rw [aw_2] at o2
  obtain ⟨A2, c2, rfl⟩ := OwnI.len o2
  have O2 := hid o2
  have B2 := hid (B1.out.trans (h2.mono B1.out.size))
  clear o2 h2 B1
  have P2 := hid (own_nats [3, 0, 1] w6 (Nat.le_refl _) (by unfold maxLen; simp))
  have b2 : Below w6.heap.size w6 (w6.alloc (.cells ([3, 0, 1].map fun j : Nat => Value.int .i64 j).toArray 3)) := (Below.refl _ _).alloc (Nat.le_refl _) _
  have O3 := hid (O2.out.below b2 (Nat.le_refl _))
  have B3 := hid (B2.out.trans (b2.mono B2.out.size))
  clear b2
  go_wp2_with ((with_reducible apply wlit3 eltNat undNat (x := 3) (y := 0) (z := 1)); omega; rfl; rfl; rfl; rfl; rfl; rfl)
  refine (is19_any O3.out P2.out (by simp) (by simp)).mono ?_
  rintro e w7 ⟨rfl, h3⟩
  rw [decide_eq_true rfl]
  have B4 := hid (B3.out.trans (h3.mono B3.out.size))
  clear h3 B2 B3 O2 O3 P2
  go_wp2_with fail
  refine (given19_any _).mono ?_
  rintro e w8 ⟨rfl, h1⟩
  have B1 := hid (B4.out.trans (h1.mono B4.out.size))
  clear h1 B4
  unfold gv
  go_wp2_with ((with_reducible apply wblV (built_w0 4 2)); (simp only [List.map_toArray, List.map_cons, List.map_nil]; rfl))
  refine (where_any 4 1 4 2 (fun _ => 0) (by omega) w8).mono ?_
  rintro e w9 ⟨v, rfl, o2, h2⟩
  rw [aw_3] at o2
  obtain ⟨A2, c2, rfl⟩ := OwnI.len o2
  have O2 := hid o2
  have B2 := hid (B1.out.trans (h2.mono B1.out.size))
  clear o2 h2 B1
  have P2 := hid (own_nats [2] w9 (Nat.le_refl _) (by unfold maxLen; simp))
  have b2 : Below w9.heap.size w9 (w9.alloc (.cells ([2].map fun j : Nat => Value.int .i64 j).toArray 3)) := (Below.refl _ _).alloc (Nat.le_refl _) _
  have O3 := hid (O2.out.below b2 (Nat.le_refl _))
  have B3 := hid (B2.out.trans (b2.mono B2.out.size))
  clear b2
  go_wp2_with ((with_reducible apply wlit1 eltNat undNat (x := 2)); omega; rfl; rfl)
  refine (is19_any O3.out P2.out (by simp) (by simp)).mono ?_
  rintro e w10 ⟨rfl, h3⟩
  rw [decide_eq_true rfl]
  have B4 := hid (B3.out.trans (h3.mono B3.out.size))
  clear h3 B2 B3 O2 O3 P2
  go_wp2_with fail
  go_ret
  exact ⟨rfl, B4.out⟩
end MiM
end Go.Proofs.Ytijgbbeplojinaa
set_option maxRecDepth 100000
namespace Go.Proofs.Ytijgbbeplojinaa
open Go.ChangeShapes Go.WideShapes Go.ChangeAt Go.RowKit
attribute [local go_sem] Gives GivesE
namespace MiM
open GeM StM
theorem whL_len (a b k i : Int) : (whL a b k i).length ≤ 64 := by
  cases h : hom a b k i with
  | none => rw [(wh_none h).1]; exact Nat.zero_le _
  | some y =>
    obtain ⟨f, n, p⟩ := y
    obtain ⟨m, q, rfl, rfl, _, _, h64, _, hn, _⟩ := hom_some h
    rw [(wh_some h).1, rnd_length]; omega
set_option maxHeartbeats 1600000 in
theorem where_law (a b k i : Int) (x : Nat → Nat) (hi : -9223372036854775808 ≤ i ∧ i ≤ 9223372036854775807) (W : World) : Calls Try.prog 3 #[gv a b, .agg (wrL k i x).toArray] W fun e w' => e = .returned (.bool true) ∧ Below W.heap.size W w' := by
  unfold gv
  go_enter Try.func3, Try.ntmps3
  go_upto_region 1 with fail
  obtain ⟨gg, hgg⟩ : ∃ g, g = W.heap.size := ⟨_, rfl⟩
  obtain ⟨gw, hgw⟩ : ∃ g, g = W.heap.size + 1 := ⟨_, rfl⟩
  rw [← hgw, ← hgg]
  generalize hW : World.alloc (World.alloc W _) _ = w1
  have G1 := hid (show GW W gg gw a b k i x w1 by rw [hgg, hgw, ← hW]; exact GW.mk' W a b k i x)
  clear hgg hgw hW
  go_wp2_with (first | ((with_reducible apply ldR (cs := #[Value.int .i64 a, .int .i64 b]) (tGe _ _)); rfl; exact G1.out.geo.whole) | ((with_reducible apply ldR (cs := (wrL k i x).toArray) (tWr k i x)); rfl; exact G1.out.wr.whole))
  refine (rwhere_any a b k i x hi w1).mono ?_
  rintro e w2 ⟨v, rfl, o2, h2⟩
  obtain ⟨A2, c2, rfl⟩ := OwnI.len o2
  have G2 := hid (G1.out.on h2)
  have O2 := hid o2
  obtain ⟨n2, hn2⟩ : ∃ n, n = (whL a b k i).length := ⟨_, rfl⟩
  have N2 := hid hn2
  rw [← hn2]
  clear o2 h2 G1 hn2
  go_wp2_with ((with_reducible apply ldR (cs := #[Value.int .i64 a, .int .i64 b]) (tGe _ _)); rfl; exact G2.out.geo.whole)
  refine (rcheck_any a b w2).mono ?_
  rintro e w3 ⟨rfl, h3⟩
  have G3 := hid (G2.out.on h3)
  have O3 := hid (O2.out.below h3 (Nat.le_refl _))
  clear h3 G2 O2
  by_cases hg : GeM.Good a b
  · rw [if_pos hg]
    go_wp2_with (first | ((with_reducible apply ldR (cs := #[Value.int .i64 a, .int .i64 b]) (tGe _ _)); rfl; exact G3.out.geo.whole) | ((with_reducible apply ldR (cs := (wrL k i x).toArray) (tWr k i x)); rfl; exact G3.out.wr.whole))
    refine (where_any a b k i x hi w3).mono ?_
    rintro e w4 ⟨v, rfl, o4, h4⟩
    obtain ⟨A4, c4, rfl⟩ := OwnI.len o4
    have G4 := hid (G3.out.on h4)
    have O4 := hid (O3.out.below h4 (Nat.le_refl _))
    have P4 := hid o4
    rw [← N2.out]
    clear o4 h4 G3 O3
    go_wp2_with fail
    rw [N2.out]
    refine (rints_any P4.out O4.out (Nat.le_trans (whL_len _ _ _ _) (by omega)) (Nat.le_trans (whL_len _ _ _ _) (by omega))).mono ?_
    rintro e w5 ⟨rfl, h5⟩
    rw [decide_eq_true rfl, ← N2.out]
    have G5 := hid (G4.out.on h5)
    clear h5 G4 O4 P4
    go_wp2_with fail
    refine (awake19_any w5).mono ?_
    rintro e w6 ⟨rfl, h6⟩
    have G6 := hid (G5.out.on h6)
    clear h6 G5
    go_wp2_with fail
    go_ret
    exact ⟨rfl, G6.out.bel⟩
  · rw [if_neg hg]
    have hn := (wh_none (hom_bad (k := k) (i := i) hg)).1
    go_wp2_with (first | ((with_reducible apply ldR (cs := #[Value.int .i64 a, .int .i64 b]) (tGe _ _)); rfl; exact G3.out.geo.whole) | ((with_reducible apply ldR (cs := (wrL k i x).toArray) (tWr k i x)); rfl; exact G3.out.wr.whole))
    refine (where_any a b k i x hi w3).mono ?_
    rintro e w4 ⟨v, rfl, o4, h4⟩
    rw [hn] at o4
    obtain ⟨A4, c4, rfl⟩ := OwnI.len o4
    have G4 := hid (G3.out.on h4)
    have P4 := hid o4
    clear o4 h4 G3 O3
    go_wp2_with fail
    refine (rints_any P4.out (ownI_nil w4 0) (Nat.zero_le _) (Nat.zero_le _)).mono ?_
    rintro e w5 ⟨rfl, h5⟩
    rw [decide_eq_true rfl]
    have G5 := hid (G4.out.on h5)
    clear h5 G4 P4
    go_wp2_with fail
    refine (awake19_any w5).mono ?_
    rintro e w6 ⟨rfl, h6⟩
    have G6 := hid (G5.out.on h6)
    clear h6 G5
    go_wp2_with fail
    go_ret
    exact ⟨rfl, G6.out.bel⟩
end MiM
end Go.Proofs.Ytijgbbeplojinaa
