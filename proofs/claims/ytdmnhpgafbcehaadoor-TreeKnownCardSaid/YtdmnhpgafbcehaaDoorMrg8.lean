/-
  The landed tree: the path of a number, gone through by a function; Path.
  The landed tree: Tag, Node, Top.
  Regions that draw their order, within a round of a loop over a function: the laws of XRegion and XRegEx2 said of all orders (wpAny), and carried into a round.
  The landed tree: Proof.
  The landed tree: Check.
  The landed tree: Check of a proof that may be.
  Trees in plain numbers: what one leaf turns.
  Trees in plain numbers: one leaf set from below to the top, a node at a time; left early where nothing changes any more.
  The landed tree: Set.
-/
import Derived.Test.YtdmnhpgafbcehaaDoorMrg7
import Derived.RangeFuncNested
import Derived.RangeFuncBound
import Derived.RangeFuncCalls
import Derived.RangeFuncLeaves
import Derived.RangeFuncBox
import Derived.Shelf.Abstract
import Derived.Shelf.RegionOpen
import Derived.WalkKit
import Derived.OwnWalkIn
import Derived.TacticsInMore
import Derived.LoopNIn
import Derived.LoopIn
import Derived.Maps.AppendAt
import Derived.OrdersIn
import Derived.Sort.CutIn
set_option linter.unusedVariables false
set_option linter.unusedSimpArgs false
set_option maxRecDepth 100000
namespace Go.Proofs.YtdmnhpgafbcehaaDoor
open Go.ChangeShapes Go.WideShapes Go.ChangeAt Go.RowKit Go.Shelf
attribute [local go_sem] Gives
attribute [local go_sem] Oper.semAt_some
namespace TrM
open TgP RwP StM
/-- A node's number in a tree of so many leaves. -/
abbrev Nd (n : Nat) := {x : Nat // 1 ≤ x ∧ x < n}
abbrev vals {n : Nat} (l : List (Nd n)) : List Nat := l.map (·.1)
theorem above_any (b : Nat) (w : World) : Calls Tryd.prog 35 #[.int .i64 (b : Nat)] w fun e w' =>
    e = .returned (.func (.func 45) #[] #[.pointer (some ⟨w.heap.size, 0, none⟩)]) ∧ Below w.heap.size w w' ∧ Blk w' w.heap.size 3 #[.int .i64 (b : Nat)] := by
  have B := hid (show Below w.heap.size w (w.alloc (.cells #[.int .i64 (b : Nat)] 3)) from (Below.refl _ _).alloc (Nat.le_refl _) _)
  have K := hid (Blk.new w 3 #[.int .i64 (b : Nat)])
  go_enter Tryd.func35, Tryd.ntmps35
  go_wp2_with fail
  refine bodyPost_ret (results_tmp (t := 2) rfl _ _ _) rfl ?_
  exact ⟨rfl, B.out, K.out⟩
set_option maxRecDepth 100000 in
set_option maxHeartbeats 1000000 in
theorem above1_in (l h leaf bN : Nat) (hh : okH h) (hl : leaf < 2 ^ h) (T : Nat → Prop) (w1 : World)
    (q1 : w1.cell? ⟨bN, 0, none⟩ = some (.int .i64 ((2 ^ h + leaf : Nat) : Int))) (d1 : ¬ T bN) (J Jx : List (Nd (2 ^ h)) → World → Prop)
    (hY : ∀ pre x W, J pre W → pre.length < h → YieldAt Fence.wide 5 Tryd.prog l #[.int .i64 ((x.1 : Nat) : Int)] W fun e W' =>
      (e = .returned (.bool true) ∧ J (pre ++ [x]) W' ∧ Turn T W W') ∨ (e = .returned (.bool false) ∧ Jx (pre ++ [x]) W'))
    (W : World) (hW : Turn T w1 W) (h0 : J [] W) :
    CallsIn Fence.wide 6 Tryd.prog 45 #[.func (.yield l) #[] #[], .pointer (some ⟨bN, 0, none⟩)] W fun e W' => (∃ v, e = .returned v) ∧
      ((∃ ys, vals ys = pthL h leaf ∧ J ys W') ∨ (∃ pre, (vals pre = (pthL h leaf).take pre.length ∧ pre.length ≤ h) ∧ Jx pre W')) := by
  have h12 : h ≤ 12 := by have := hh.2; omega
  have HX := pow_le h12
  have HLT := hid (fun i => pth_lt (i := i) hl)
  have HPOS := hid (fun i (hi : i < h) => pth_pos (leaf := leaf) hi)
  have HEND := hid (fun i (hi : h ≤ i) => pth_end hl i hi)
  have HZ := hid (pth_zero h leaf)
  have HLEN := hid (pthL_length h leaf)
  have HS := hid (pth_succ h leaf)
  have HT := hid (fun i (hi : i < h) => pthL_take (leaf := leaf) hi)
  have HY := hid hY
  have H0 := hid h0
  clear hY h0 hh
  generalize hX : 2 ^ h = X at *
  have bl : X + leaf ≤ 8192 := by omega
  refine callsIn_of_wp Tryd.func45 rfl trivial ?_ rfl
  simp only [Tryd.ntmps45, List.size_toArray, List.length_cons, List.length_nil, Nat.reduceAdd, Nat.reduceSub, Array.replicate_succ, Array.replicate_zero, List.push_toArray, List.append_toArray, List.nil_append, List.cons_append]
  have r1 := hW.cell q1 d1
  have t1 : ((X + leaf : Nat) : Int).tdiv 2 = ((pth h leaf 0 : Nat) : Int) := by
    rw [HZ.out, Int.tdiv_eq_ediv_of_nonneg (by omega)]
    omega
  have hp0 := HLT.out 0
  generalize hbn : X + leaf = bn at *
  have hbn1 : bn ≤ 8192 := bl
  clear HZ hbn bl
  generalize hp : pth h leaf 0 = p0 at t1 hp0
  gi_wp2
  try rw [t1]
  subst hp
  gi_loopw [3] (fun u wr => ∃ i : Nat, i ≤ h ∧ u = .int .i64 ((pth h leaf i : Nat) : Int) ∧ Hid (∃ pre, vals pre = (pthL h leaf).take i ∧ J pre wr) ∧ Hid (Turn T w1 wr)) (fun u _ => (intOf u).toNat)
  case atStart => exact ⟨0, Nat.zero_le _, rfl, hid ⟨[], by simp, H0.out⟩, hid hW⟩
  case round =>
    obtain ⟨i, hi, rfl, HJ, HT1⟩ := hrel
    by_cases hgo : i < h
    · have hp1 := HPOS.out i hgo
      have hp2 := HLT.out i
      have hps := hid (HS.out i)
      have tk := hid (HT.out i hgo)
      obtain ⟨pre, hpre, hJ⟩ := HJ.out
      have hlen : pre.length = i := by
        have := congrArg List.length hpre
        rw [List.length_map, List.length_take, HLEN.out] at this
        omega
      obtain ⟨q, hq⟩ : ∃ q : Nd X, q.1 = pth h leaf i := ⟨⟨pth h leaf i, hp1, hp2⟩, rfl⟩
      have hy := HY.out pre q wr hJ (by omega)
      rw [hq] at hy
      generalize pth h leaf i = p at *
      have t2 : (1 : Int) ≤ (p : Int) := by omega
      have t3 : (p : Int).tdiv 2 = ((p / 2 : Nat) : Int) := by
        rw [Int.tdiv_eq_ediv_of_nonneg (by omega)]
        omega
      obtain ⟨fn, tmps, assign, body, hy, hR⟩ := hy
      gi_wp2
      refine hR.mono ?_
      rintro e w3 (⟨rfl, hJ3, hk3⟩ | ⟨rfl, hJx3⟩)
      · have hT3 := hid (HT1.out.trans hk3 fun _ e => .inl e)
        have HJ3 := hid hJ3
        clear hJ3 hk3 HJ HT1 hR hy hJ
        gi_wp2
        try rw [t3]
        go_roundw
        case rel => exact ⟨i + 1, by omega, by rw [hps.out]; exact congrArg (Value.int .i64) (by omega), hid ⟨pre ++ [q], by rw [tk.out, vals, List.map_append, ← hpre, List.map_cons, List.map_nil, hq], HJ3.out⟩, hT3⟩
        case measure => simp [intOf] <;> omega
      · have HJ3 := hid hJx3
        clear hJx3 HJ HT1 hR hy hJ
        gi_wp2
        refine bodyPost_ret (results_none rfl _ _ _) rfl ?_
        exact ⟨⟨_, rfl⟩, .inr ⟨pre ++ [q], ⟨by rw [List.length_append, hlen, List.length_singleton, tk.out, vals, List.map_append, ← hpre, List.map_cons, List.map_nil, hq], by rw [List.length_append, hlen, List.length_singleton]; omega⟩, HJ3.out⟩⟩
    · have hz := HEND.out i (by omega)
      have hih : i = h := by omega
      rw [hz]
      gi_wp2
      go_end0
      obtain ⟨pre, hpre, hJ⟩ := HJ.out
      exact ⟨⟨_, rfl⟩, .inl ⟨pre, by rw [hpre, List.take_of_length_le (by rw [HLEN.out]; omega)], hJ⟩⟩
set_option maxRecDepth 100000 in
set_option maxHeartbeats 2000000 in
theorem appseq_any (h leaf bN : Nat) (hh : okH h) (hl : leaf < 2 ^ h) (w : World) (q1 : w.cell? ⟨bN, 0, none⟩ = some (.int .i64 ((2 ^ h + leaf : Nat) : Int))) :
    Calls Tryd.prog 49 #[.slice none 0 0, .func (.func 45) #[] #[.pointer (some ⟨bN, 0, none⟩)]] w fun e w' => ∃ v, e = .returned v ∧ OwnI w' w.heap.size v (pthL h leaf) ∧ Below w.heap.size w w' := by
  refine (callsIn_wide (n := 7)).1 ?_
  obtain ⟨i0, hi, hz0, hz1, hz2⟩ := info_parts infoI
  have h12 : h ≤ 12 := by have := hh.2; omega
  have lN : bN < w.heap.size := World.block_lt_of_cell? w _ q1
  refine callsIn_of_wp_marks Tryd.func49 rfl trivial ?_ rfl
  simp only [Tryd.ntmps49, List.size_toArray, List.length_cons, List.length_nil, Nat.reduceAdd, Nat.reduceSub, Array.replicate_succ, Array.replicate_zero, List.push_toArray, List.append_toArray, List.nil_append, List.cons_append]
  obtain ⟨w3, hw3⟩ : ∃ w3, w3 = w.alloc (.cells #[.slice none 0 0] 39) := ⟨_, rfl⟩
  have hsz : w3.heap.size = w.heap.size + 1 := by rw [hw3]; simp
  have B0 : Below w.heap.size w w3 := by rw [hw3]; exact (Below.refl _ w).alloc (Nat.le_refl _) _
  have bL : Boxed w3 w.heap.size 39 (.slice none 0 0) := by rw [hw3]; exact Boxed.new w _ _
  have r1 : w3.cell? ⟨bN, 0, none⟩ = some (.int .i64 ((2 ^ h + leaf : Nat) : Int)) := (B0.cell (p := ⟨bN, 0, none⟩) lN).trans q1
  have hT : ∀ k, Tl w.heap.size w3.heap.size k → w.heap.size ≤ k := fun k e => by rcases e with e | e <;> omega
  have HB := hid (show ∀ W, Turn (Tl w.heap.size w3.heap.size) w3 W → Below w.heap.size w W from fun W h => B0.trans (h.below (by omega) hT))
  gi_wp2
  rw [← hw3]
  clear hw3 q1
  refine wpIn_rangeFunc_ownG (α := Nd (2 ^ h)) rfl (by omega) (gf := 45) (lb := #[.pointer (some ⟨bN, 0, none⟩)]) rfl trivial (enters_of Tryd.func45 (by kernel_rfl) rfl)
    (encs := fun x => #[Value.int .i64 ((x.1 : Nat) : Int)]) (Kp := Turn (Tl w.heap.size w3.heap.size)) (S := fun ys => vals ys = pthL h leaf) (Sp := fun pre => vals pre = (pthL h leaf).take pre.length ∧ pre.length ≤ h) (N := h) (w0 := w3)
    (fun l J Jx W hW _ _ hY h0 => above1_in l h leaf bN hh hl (Tl w.heap.size w3.heap.size) w3 r1 (by unfold Tl; omega) J Jx hY W ((Turn.of_below hW).mono fun k e => .inr e) h0)
    (fun h1 h2 => h1.trans h2 fun _ e => .inl e) (fun W l o o' hl _ _ _ => turn_putObj W l o' (.inr hl)) (Below.refl _ _) (fun _ => rfl)
    (fun pre W => (∃ v, Boxed W w.heap.size 39 v ∧ W.ownsRow w3.heap.size 3 1 v pre.length (pre.map fun j => Value.int .i64 ((j.1 : Nat) : Int)) ∧ True) ∧ Turn (Tl w.heap.size w3.heap.size) w3 W)
    (fun _ _ _ => False)
    (OwnFrom.and (Own.from (holdsRow_own w3.heap.size w.heap.size 39 3 1 (fun pre : List (Nd (2 ^ h)) => pre.length) (fun pre => pre.map fun j => Value.int .i64 ((j.1 : Nat) : Int)) (fun _ _ => True)) _) (fun s X Y row hs hg hr => hs.trans (Turn.of_grown hg fun k e => .inr (hr k e).1) fun _ e => .inl e))
    (fun _ _ _ _ _ hs _ _ => hs)
    ⟨⟨_, bL, World.ownsRow_nil _ _ _ _, trivial⟩, Turn.refl _ _⟩
    (fun x => { tmps := #[.slice none 0 0, .func (.func 45) #[] #[.pointer (some ⟨bN, 0, none⟩)], .pointer (some ⟨w.heap.size, 0, none⟩), undef, .slice none 0 0, .int .i64 ((x.1 : Nat) : Int), .func (.func 45) #[] #[.pointer (some ⟨bN, 0, none⟩)], .int .i64 ((x.1 : Nat) : Int), undef, undef, undef, undef, undef], defers := [] }) ?assign ?body ?done ?stop
  case assign =>
    intro l x W K hK
    gi_wp2
    exact hK
  case body =>
    rintro l pre x W ⟨⟨v, hv, hrow, _⟩, hT2⟩ hlt
    have hc := hv.cell
    have hf := hv.frozen
    have hml : 65 ≤ maxLen := by unfold maxLen; omega
    have hx1 := x.2.2
    have hx2 := pow_le h12
    gi_wp2_with (gi_at_builtin; refine wpListIn_append_own _ rfl _ _ 39 rfl w3.heap.size 3 i0 (.int .i64 0) 1 8 Tryd.underlying39 hi hz0 hz1 hz2 rfl (by decide) _ _ _ rfl (hrow.alloc _) ⟨W.heap.size, 0, none⟩ 1 1 [.int .i64 ((x.1 : Nat) : Int)] rfl rfl (cell_one_new _ _ _) (by simp [Value.oneCell']) (by omega) (by omega) (by have := hT2.size; simp; omega) ?_; intro v' w4 hown' hgrow _; obtain ⟨g', cap', rfl⟩ := ownsRow_succ hown'; obtain ⟨hv1, hv2, hr2, hk2, hb2⟩ := box_app (T := Tl w.heap.size w3.heap.size) hv (by decide) hrow hT2.size (.inl rfl) (fun _ e => .inr e) hown' hgrow; have hc1 := hv1.cell; have hf1 := hv1.frozen)
    exact ⟨hk2.from _, hb2, ⟨_, hv2, by simpa using hr2, trivial⟩, hT2.trans hb2 fun _ e => .inl e⟩
  case done =>
    rintro D ys W hD hys ⟨⟨v, hv, hrow, _⟩, hT2⟩ hK
    have hc := hv.cell
    have hrow2 : W.ownsRow w3.heap.size 3 1 v (pthL h leaf).length ((pthL h leaf).map fun j : Nat => Value.int .i64 j) := by
      rw [← hys, vals, List.length_map, List.map_map]
      exact hrow
    gi_wp2
    refine ⟨by simp, .inl ⟨_, _, rfl, run_takeDeferred hK, ?_⟩⟩
    exact ⟨_, results_tmp rfl _ _ _, v, rfl, row_low (ownsRow_putObj hrow2 _ hK rfl) (by omega), (HB.out W hT2).trans (belowK_b (w := w) (Nat.le_refl _) W D _ _ (by omega) hK rfl rfl)⟩
  case stop =>
    rintro D c pre W _ _ h _
    exact h.elim
theorem collect18_any (h leaf bN : Nat) (hh : okH h) (hl : leaf < 2 ^ h) (w : World) (q1 : w.cell? ⟨bN, 0, none⟩ = some (.int .i64 ((2 ^ h + leaf : Nat) : Int))) :
    Calls Tryd.prog 42 #[.func (.func 45) #[] #[.pointer (some ⟨bN, 0, none⟩)]] w fun e w' => ∃ v, e = .returned v ∧ OwnI w' w.heap.size v (pthL h leaf) ∧ Below w.heap.size w w' := by
  have A := hid (appseq_any h leaf bN hh hl w q1)
  clear q1 hl
  go_enter Tryd.func42, Tryd.ntmps42
  go_wp2_with fail
  refine A.out.mono ?_
  rintro e w1 ⟨v, rfl, h1, h2⟩
  have H := hid (And.intro h1 h2)
  clear h1 h2
  obtain ⟨A1, c1, rfl⟩ := OwnI.len H.out.1
  go_wp2_with fail
  go_ret
  exact ⟨_, rfl, H.out⟩
set_option maxHeartbeats 400000 in
theorem path_no (h leaf : Int) (hn : ¬ pathOk h leaf) (w : World) : Calls Tryd.prog 25 #[.int .i64 h, .int .i64 leaf] w fun e w' => ∃ v, e = .returned v ∧ OwnI w' w.heap.size v [] ∧ Below w.heap.size w w' := by
  have I := hid (fun w => isl_any h leaf w)
  rw [decide_eq_false hn] at I
  clear hn
  go_enter Tryd.func25, Tryd.ntmps25
  go_wp2_with fail
  refine (I.out w).mono ?_
  rintro e w' ⟨rfl, rfl⟩
  go_wp2_with fail
  go_ret
  exact ⟨_, rfl, OwnI.nil _ _, Below.refl _ _⟩
set_option maxHeartbeats 400000 in
theorem path_yes (h leaf : Nat) (hh : okH h) (hl : leaf < 2 ^ h) (w : World) : Calls Tryd.prog 25 #[.int .i64 (h : Nat), .int .i64 (leaf : Nat)] w fun e w' => ∃ v, e = .returned v ∧ OwnI w' w.heap.size v (pthL h leaf) ∧ Below w.heap.size w w' := by
  have I := hid (fun w => isl_any h leaf w)
  rw [decide_eq_true (show pathOk (h : Nat) (leaf : Nat) from ⟨hh, by omega, by rw [Int.toNat_natCast]; omega⟩)] at I
  have h12 : h ≤ 12 := by have := hh.2; omega
  have L := hid (fun w => lvs_any h h12 w)
  have CC := hid (fun bN w q => collect18_any h leaf bN hh hl w q)
  have HX := pow_le h12
  generalize 2 ^ h = X at *
  obtain ⟨Y, hY⟩ : ∃ Y, Y = X + leaf := ⟨_, rfl⟩
  have t1 : wrap64 ((X : Int) + (leaf : Int)) = (Y : Int) := by rw [IntWalk.wrap64_in _ (by omega)]; omega
  rw [← hY] at CC
  clear hY hl hh
  go_enter Tryd.func25, Tryd.ntmps25
  go_wp2_with fail
  refine (I.out w).mono ?_
  rintro e w' ⟨rfl, rfl⟩
  go_wp2_with fail
  refine (L.out w).mono ?_
  rintro e w' ⟨rfl, rfl⟩
  go_wp2_with fail
  try rw [t1]
  refine (above_any Y w).mono ?_
  rintro e w1 ⟨rfl, h1, h2⟩
  have B1 := hid h1
  have K1 := hid (h2.cell 0)
  clear h1 h2
  go_wp2_with fail
  refine (CC.out w.heap.size w1 K1.out).mono ?_
  rintro e w2 ⟨v, rfl, h1, h2⟩
  have H := hid (And.intro (show OwnI w2 w.heap.size v (pthL h leaf) from OwnI.down h1 B1.out.size) (B1.out.trans (h2.mono B1.out.size)))
  clear h1 h2
  obtain ⟨A1, c1, rfl⟩ := OwnI.len H.out.1
  go_wp2_with fail
  go_ret
  exact ⟨_, rfl, H.out⟩
end TrM
end Go.Proofs.YtdmnhpgafbcehaaDoor
set_option maxRecDepth 100000
namespace Go.Proofs.YtdmnhpgafbcehaaDoor
open Go.ChangeShapes Go.WideShapes Go.ChangeAt Go.RowKit
attribute [local go_sem] Gives GivesE
namespace TrM
open TgP RwP
theorem Lv.on {v : Value} {n : Nat} {w w' : World} (h : Lv v n w) (hb : Below w.heap.size w w') : Lv v n w' := fun w2 h2 => h w2 (hb.trans (h2.mono hb.size))
theorem findV_bad {n : Nat} {j a b : Int} (h : findV n j a b ≠ 0) : findV n j a b = 1 ∨ findV n j a b = 2 := by
  unfold findV at h ⊢
  by_cases h0 : n = 0
  · rw [if_pos h0]; exact .inl rfl
  · rw [if_neg h0] at h ⊢
    by_cases h1 : j < a ∨ b ≤ j
    · rw [if_pos h1]; exact .inr rfl
    · rw [if_neg h1] at h; exact absurd rfl h
theorem findV_ok {n : Nat} {j a b : Int} (hn : 1 ≤ n) (h1 : a ≤ j) (h2 : j < b) : findV n j a b = 0 := by
  unfold findV
  rw [if_neg (by omega), if_neg (by omega)]
theorem findV_no {n : Nat} {j a b : Int} (hn : 1 ≤ n) (h : ¬ (a ≤ j ∧ j < b)) : findV n j a b = 2 := by
  unfold findV
  rw [if_neg (by omega), if_pos (by omega)]
set_option maxHeartbeats 800000 in
set_option maxRecDepth 100000 in
theorem tag_bad {v : Value} {n : Nat} {w : World} (hv : ∃ p, v = .pointer p) (H : Lv v n w) (hn : n ≤ 4096) (j E : Int) (hE : findV n j 1 ((2 * n : Nat) : Int) = E) (hE0 : E ≠ 0) :
    Calls Tryd.prog 15 #[v, .int .i64 j] w fun e w' => e = .returned (.tuple #[.agg (ar 32 fun _ => 0), .int .i64 E]) ∧ Below w.heap.size w w' := by
  obtain ⟨p, rfl⟩ := hv
  obtain ⟨N, hN⟩ : ∃ N, N = 2 * n := ⟨_, rfl⟩
  rw [← hN] at hE
  have t1 : (n : Int) + (n : Int) = (N : Int) := by omega
  have hE2 : E = 1 ∨ E = 2 := by rw [← hE]; exact findV_bad (by rw [hE]; exact hE0)
  have HE := hid hE
  clear hN hE hE0
  have hz : Blk (w.alloc (.cells (ar 32 fun _ => 0) 36)) w.heap.size 36 (ar 32 fun _ => 0) := Blk.new _ _ _
  have hbz : Below w.heap.size w (w.alloc (.cells (ar 32 fun _ => 0) 36)) := (Below.refl _ _).alloc (Nat.le_refl _) _
  have L := hid (H.on hbz)
  clear H
  rcases hE2 with rfl | rfl
  all_goals
    go_enter Tryd.func15, Tryd.ntmps15
    go_upto_region 1 with (with_reducible apply alA tT)
    generalize World.alloc w _ = w1 at hz hbz L ⊢
    go_wp2_with fail
    refine (L.out w1 (Below.refl _ _)).mono ?_
    rintro e w' ⟨rfl, rfl⟩
    go_wp2_with fail
    refine (L.out w1 (Below.refl _ _)).mono ?_
    rintro e w' ⟨rfl, rfl⟩
    go_wp2_with fail
    try rw [t1]
    refine (find_any ⟨_, rfl⟩ L.out j 1 N).mono ?_
    rintro e w' ⟨rfl, rfl⟩
    rw [HE.out]
    go_wp2_with (first | ((with_reducible apply bldZ zT)) | ((with_reducible apply stA tT); rfl; rfl; exact hz))
    apply ret_art tT Tryd.results15
    · rfl
    · rfl
    · rfl
    · exact hz.setRow_same _
    exact ⟨rfl, below_setRow hbz (Nat.le_refl _) _⟩
set_option maxHeartbeats 800000 in
set_option maxRecDepth 100000 in
theorem nod_bad {v : Value} {n : Nat} {w : World} (hv : ∃ p, v = .pointer p) (H : Lv v n w) (j E : Int) (hE : findV n j 1 (n : Nat) = E) (hE0 : E ≠ 0) :
    Calls Tryd.prog 17 #[v, .int .i64 j] w fun e w' => e = .returned (.tuple #[.agg (ar 64 fun _ => 0), .int .i64 E]) ∧ Below w.heap.size w w' := by
  obtain ⟨p, rfl⟩ := hv
  have hE2 : E = 1 ∨ E = 2 := by rw [← hE]; exact findV_bad (by rw [hE]; exact hE0)
  have HE := hid hE
  clear hE hE0
  have hz : Blk (w.alloc (.cells (ar 64 fun _ => 0) 50)) w.heap.size 50 (ar 64 fun _ => 0) := Blk.new _ _ _
  have hbz : Below w.heap.size w (w.alloc (.cells (ar 64 fun _ => 0) 50)) := (Below.refl _ _).alloc (Nat.le_refl _) _
  have L := hid (H.on hbz)
  clear H
  rcases hE2 with rfl | rfl
  all_goals
    go_enter Tryd.func17, Tryd.ntmps17
    go_upto_region 1 with (with_reducible apply alA tS)
    generalize World.alloc w _ = w1 at hz hbz L ⊢
    go_wp2_with fail
    refine (L.out w1 (Below.refl _ _)).mono ?_
    rintro e w' ⟨rfl, rfl⟩
    go_wp2_with fail
    refine (find_any ⟨_, rfl⟩ L.out j 1 n).mono ?_
    rintro e w' ⟨rfl, rfl⟩
    rw [HE.out]
    go_wp2_with (first | ((with_reducible apply bldZ zS)) | ((with_reducible apply stA tS); rfl; rfl; exact hz))
    apply ret_art tS Tryd.results17
    · rfl
    · rfl
    · rfl
    · exact hz.setRow_same _
    exact ⟨rfl, below_setRow hbz (Nat.le_refl _) _⟩
set_option maxHeartbeats 800000 in
set_option maxRecDepth 100000 in
theorem tag_yes {w : World} {g gl cl N n : Nat} {k : Nat → Nat} {F : Nat → Nat → Nat} (H : PT w g gl cl k N F) (hN : N = 2 * n) (hn : n ≤ 4096) (hn1 : 1 ≤ n) (j : Nat) (h1 : 1 ≤ j) (h2 : j < N) :
    Calls Tryd.prog 15 #[pT g, .int .i64 (j : Nat)] w fun e w' => e = .returned (.tuple #[.agg (ar 32 (F j)), .int .i64 0]) ∧ Below w.heap.size w w' := by
  have t1 : (n : Int) + (n : Int) = (N : Int) := by omega
  have HE := hid (findV_ok (n := n) (j := (j : Nat)) (a := 1) (b := (N : Nat)) hn1 (by omega) (by omega))
  obtain ⟨f, hf⟩ : ∃ f, f = F j := ⟨_, rfl⟩
  have FE := hid hf
  rw [← hf]
  have hz : Blk (w.alloc (.cells (ar 32 fun _ => 0) 36)) w.heap.size 36 (ar 32 fun _ => 0) := Blk.new _ _ _
  have hbz : Below w.heap.size w (w.alloc (.cells (ar 32 fun _ => 0) 36)) := (Below.refl _ _).alloc (Nat.le_refl _) _
  have L := hid ((H.lv hN hn).on hbz)
  have P := hid (H.below hbz)
  clear H hf hN
  go_enter Tryd.func15, Tryd.ntmps15
  go_upto_region 1 with (with_reducible apply alA tT)
  generalize World.alloc w _ = w1 at hz hbz L P ⊢
  go_wp2_with fail
  refine (L.out w1 (Below.refl _ _)).mono ?_
  rintro e w' ⟨rfl, rfl⟩
  go_wp2_with fail
  refine (L.out w1 (Below.refl _ _)).mono ?_
  rintro e w' ⟨rfl, rfl⟩
  go_wp2_with fail
  try rw [t1]
  refine (find_any ⟨_, rfl⟩ L.out j 1 N).mono ?_
  rintro e w' ⟨rfl, rfl⟩
  rw [HE.out]
  have c1 := P.out.c
  have r2 := hid (OwnF.range P.out.own h2)
  rw [← FE.out] at r2
  go_wp2_with (first | ((with_reducible apply ldAm tT); rfl; exact r2.out) | ((with_reducible apply stA tT); rfl; rfl; exact hz))
  apply ret_art tT Tryd.results15
  · rfl
  · rfl
  · rfl
  · exact hz.setRow_same _
  exact ⟨rfl, below_setRow hbz (Nat.le_refl _) _⟩
set_option maxHeartbeats 800000 in
set_option maxRecDepth 100000 in
theorem nod_yes {w : World} {g gl cl N n : Nat} {k : Nat → Nat} {F : Nat → Nat → Nat} (H : PT w g gl cl k N F) (hN : N = 2 * n) (hn : n ≤ 4096) (j : Nat) (h1 : 1 ≤ j) (h2 : j < n) :
    Calls Tryd.prog 17 #[pT g, .int .i64 (j : Nat)] w fun e w' => e = .returned (.tuple #[.agg (ar 64 (joined (F (2 * j)) (F (2 * j + 1)))), .int .i64 0]) ∧ Below w.heap.size w w' := by
  have HE := hid (findV_ok (n := n) (j := (j : Nat)) (a := 1) (b := (n : Nat)) (by omega) (by omega) (by omega))
  have hz : Blk (w.alloc (.cells (ar 64 fun _ => 0) 50)) w.heap.size 50 (ar 64 fun _ => 0) := Blk.new _ _ _
  have hbz : Below w.heap.size w (w.alloc (.cells (ar 64 fun _ => 0) 50)) := (Below.refl _ _).alloc (Nat.le_refl _) _
  have L := hid ((H.lv hN hn).on hbz)
  have SEC := hid (sector_any (H.below hbz) (by omega) j (by omega))
  obtain ⟨f, hf⟩ : ∃ f, f = joined (F (2 * j)) (F (2 * j + 1)) := ⟨_, rfl⟩
  rw [← hf] at SEC ⊢
  clear H hf hN
  go_enter Tryd.func17, Tryd.ntmps17
  go_upto_region 1 with (with_reducible apply alA tS)
  generalize World.alloc w _ = w1 at hz hbz L SEC ⊢
  have hzl := hz.lt
  go_wp2_with fail
  refine (L.out w1 (Below.refl _ _)).mono ?_
  rintro e w' ⟨rfl, rfl⟩
  go_wp2_with fail
  refine (find_any ⟨_, rfl⟩ L.out j 1 n).mono ?_
  rintro e w' ⟨rfl, rfl⟩
  rw [HE.out]
  go_wp2_with fail
  refine SEC.out.mono ?_
  rintro e w2 ⟨rfl, h2⟩
  have hz2 := hz.below h2 hzl
  have hb2 := hbz.trans (h2.mono hbz.size)
  clear hz hbz h2
  go_wp2_with ((with_reducible apply stA tS); rfl; rfl; exact hz2)
  apply ret_art tS Tryd.results17
  · rfl
  · rfl
  · rfl
  · exact hz2.setRow_same _
  exact ⟨rfl, below_setRow hb2 (Nat.le_refl _) _⟩
set_option maxHeartbeats 800000 in
set_option maxRecDepth 100000 in
theorem top_of {v : Value} (hv : ∃ p, v = .pointer p) (f : Nat → Nat) (E : Int) (w : World) (hT : ∀ w', Below w.heap.size w w' → Calls Tryd.prog 15 #[v, .int .i64 1] w' fun e w'' => e = .returned (.tuple #[.agg (ar 32 f), .int .i64 E]) ∧ Below w'.heap.size w' w'') :
    Calls Tryd.prog 22 #[v] w fun e w' => e = .returned (.agg (ar 32 f)) ∧ Below w.heap.size w w' := by
  obtain ⟨p, rfl⟩ := hv
  have T := hid hT
  clear hT
  have hz : Blk (w.alloc (.cells (ar 32 fun _ => 0) 36)) w.heap.size 36 (ar 32 fun _ => 0) := Blk.new _ _ _
  have hbz : Below w.heap.size w (w.alloc (.cells (ar 32 fun _ => 0) 36)) := (Below.refl _ _).alloc (Nat.le_refl _) _
  go_enter Tryd.func22, Tryd.ntmps22
  go_upto_region 1 with (with_reducible apply alA tT)
  generalize World.alloc w _ = w1 at hz hbz ⊢
  have hzl := hz.lt
  go_wp2_with fail
  refine (T.out w1 hbz).mono ?_
  rintro e w2 ⟨rfl, h2⟩
  have Z2 := hid (hz.below h2 hzl)
  have B2 := hid (hbz.trans (h2.mono hbz.size))
  have ha : Blk (w2.alloc (.cells (ar 32 fun _ => 0) 36)) w2.heap.size 36 (ar 32 fun _ => 0) := Blk.new _ _ _
  clear hz hbz h2
  go_upto_region 2 with (first | (with_reducible apply alA tT) | ((with_reducible apply stA tT); rfl; rfl; exact ha))
  have z3 := hid (show Blk ((w2.alloc (.cells (ar 32 fun _ => 0) 36)).setRow w2.heap.size (ar 32 f)) w.heap.size 36 (ar 32 fun _ => 0) from (Z2.out.alloc _).setRow_other (by have := Z2.out.lt; omega) _)
  have y3 := hid (ha.setRow_same (ar 32 f))
  have b3 := hid (show Below w.heap.size w ((w2.alloc (.cells (ar 32 fun _ => 0) 36)).setRow w2.heap.size (ar 32 f)) from below_setRow (B2.out.alloc B2.out.size _) B2.out.size _)
  clear ha
  obtain ⟨g2, hg2⟩ : ∃ g2, g2 = w2.heap.size := ⟨_, rfl⟩
  rw [← hg2] at z3 y3 b3 ⊢
  generalize World.setRow _ g2 _ = w3 at z3 y3 b3 ⊢
  clear hg2
  go_wp2_with (first | ((with_reducible apply ldA tT); rfl; exact y3.out) | ((with_reducible apply stA tT); rfl; rfl; exact z3.out))
  apply ret_ar tT Tryd.results22
  · rfl
  · rfl
  · exact z3.out.setRow_same _
  exact ⟨rfl, below_setRow b3.out (Nat.le_refl _) _⟩
end TrM
end Go.Proofs.YtdmnhpgafbcehaaDoor
set_option maxRecDepth 100000
namespace Go.Proofs.YtdmnhpgafbcehaaDoor
open Go.ChangeShapes Go.WideShapes Go.ChangeAt Go.RowKit
attribute [local go_sem] GivesE
section
variable {P : Program}
theorem region_coreA {Q : Exit → Act → World → Prop} {Γ : Type} {C : Γ → Array Bool → World → Prop} {a : Act} {w : World} {l : List Oper} (n : Nat) (ht : tidy l.toArray = true) (hB : tailB l.toArray n = true)
    (γ0 : Γ) (hC : C γ0 (Array.replicate l.length false) w.drew) (vals : Γ → Nat → Value)
    (hs : ∀ i o, (l.take n)[i]? = some o → ∀ γ L w, L.size = l.length → i ∈ Region.ready .any l.toArray L → C γ L w →
      ∃ γ', (∀ j, L.getD j false = true → vals γ j = vals γ' j) ∧
      ((Region.wanted o (yielded l.toArray (lexF (l.take n) (vals γ) i a).tmps) = true ∧ Gives P o (lexF (l.take n) (vals γ) i a) w (vals γ' i) (C γ' (L.setIfInBounds i true))) ∨
      (Region.wanted o (yielded l.toArray (lexF (l.take n) (vals γ) i a).tmps) = false ∧ vals γ' i = undef ∧ C γ' (L.setIfInBounds i true) w)))
    (hq : ∀ γ L w', (∀ i, i < n → L.getD i false = true) → C γ L w' → wpList P l.toArray Q (l.drop n) (lexF (l.take n) (vals γ) (l.take n).length a) w') : wpAny P .any l.toArray Q l.toArray.size (Array.replicate l.toArray.size false) a { w with drawn := w.drawn + 1 } := by
  have hn : n ≤ l.toArray.size := by
    simp only [tailB, Bool.or_eq_true, Bool.and_eq_true, decide_eq_true_eq] at hB
    rcases hB with h | h <;> omega
  have hlen : (l.take n).length = n := by rw [List.length_take]; simp at hn; omega
  simp only [hlen] at hq
  have hfr : ∀ (γ : Γ) i, i ≤ n → lexF (l.take n) (vals γ) i a = fr l.toArray (vals γ) (fun j => decide (j < i)) l.toArray.size a := fun γ i hi => by
    have := lexF_fr (ops := l.toArray) (vals := vals γ) (a := a) hn i hi
    simpa using this
  have H := head_any (P := P) (ops := l.toArray) (n := n) (g := l.toArray.size - n) (Q := Q) (vals := vals) (C := C) (a0 := a) ht hn
    (fun k o hk ho γ L w' hsz _ hr hC' => by
      have hko : (l.take n)[k]? = some o := by rw [List.getElem?_take_of_lt hk]; simpa using ho
      have := hs k o hko γ L w' (by simpa using hsz) hr hC'
      rwa [hfr γ k (by omega)] at this)
    (fun L hL hcl htl i hi hun t hr => by
      obtain ⟨hunt, o, ho, _⟩ := mem_ready.1 hr
      have hto : t < l.toArray.size := (Array.getElem?_eq_some_iff.1 ho).1
      simp only [tailB, Bool.or_eq_true, Bool.and_eq_true, decide_eq_true_eq] at hB
      rcases hB with hB | ⟨⟨⟨hB1, hB2⟩, hB3⟩, _⟩
      · omega
      · rcases Nat.lt_or_ge t n with h | h
        · exact h
        · exact absurd hr (tail_waits hB2 hB3 hB1 ⟨hL, hcl, htl⟩ _ i rfl hi hun t h))
    (fun γ L w' hL hall htl hC' => by
      rw [← hfr γ n (Nat.le_refl n)]
      have hlist := hq γ L w' hall hC'
      have hLe : L = tailL n (l.toArray.size - n) := by
        apply Array.ext_getElem?
        intro j
        unfold tailL
        rw [show ((List.replicate n true ++ List.replicate (l.toArray.size - n) false).toArray)[j]? = (List.replicate n true ++ List.replicate (l.toArray.size - n) false)[j]? from List.getElem?_toArray .., List.getElem?_append]
        simp only [List.length_replicate]
        by_cases hj : j < n
        · have := hall j hj
          rw [if_pos hj]
          simp [show j < L.size by omega] at this
          simp [hj, show j < L.size by omega, this]
        · rw [if_neg hj]
          by_cases hj2 : j < l.toArray.size
          · have := htl j (by omega) hj2
            simp [show j < L.size by omega] at this
            rw [Array.getElem?_eq_getElem (by omega), this, List.getElem?_replicate, if_pos (by omega)]
          · rw [Array.getElem?_eq_none (by omega), List.getElem?_replicate, if_neg (by omega)]
      simp only [tailB, Bool.or_eq_true, Bool.and_eq_true, decide_eq_true_eq] at hB
      rcases hB with hB | ⟨⟨⟨hB1, hB2⟩, hB3⟩, hB4⟩
      · rw [show l.toArray.size - n = 0 by omega]
        have hd : l.drop n = [] := List.drop_eq_nil_of_le (by simp at hB; omega)
        rw [hd] at hlist
        refine ⟨?_, hlist⟩
        apply List.eq_nil_iff_forall_not_mem.2
        intro t hr
        obtain ⟨hunt, o, ho, _⟩ := mem_ready.1 hr
        have hto : t < l.toArray.size := (Array.getElem?_eq_some_iff.1 ho).1
        have := hall t (by omega)
        rw [getD_both hunt] at this
        cases this
      · have hdl : (l.drop n).length = l.toArray.size - n := by simp
        have := wpAny_of_seq (P := P) (ops := l.toArray) (md := .any) (Q' := Q) (l.drop n) n L _ w' (fun j => by simp [List.getElem?_drop]) (by rw [hdl, hLe]; exact hB4) hlist
        rwa [hdl] at this)
    (cnt n (Array.replicate l.toArray.size false)) γ0 (Array.replicate l.toArray.size false) w.drew (by simp) (fun j o _ hl => by rw [getD_replicate_false] at hl; cases hl)
    (fun t _ hts => getD_in (by simpa using hts) (getD_replicate_false _ _)) rfl (by simpa using hC)
  have hc : cnt n (Array.replicate l.toArray.size false) = n := by
    unfold cnt
    have : ∀ i ∈ List.range n, (!(Array.replicate l.toArray.size false).getD i true) = true := fun i hi => by
      have hi' := List.mem_range.1 hi
      have : i < l.length := by simp at hn; omega
      simp [this]
    rw [List.countP_eq_length.2 this, List.length_range]
  rw [hc, show n + (l.toArray.size - n) = l.toArray.size by omega] at H
  have hz : fr l.toArray (vals γ0) (fun j => (Array.replicate l.toArray.size false).getD j false) l.toArray.size a = a := by
    rw [fr_congr (l' := fun j => decide (j < 0)) fun j _ => by rw [getD_replicate_false]; simp]
    have := fr_stop (ops := l.toArray) (vals := vals γ0) (k := 0) l.toArray.size a
    rw [Nat.zero_add] at this
    exact this
  rw [hz] at H
  exact H
theorem any_tail {Q : Exit → Act → World → Prop} {C : World → Prop} {a : Act} {w : World} {l : List Oper} (n : Nat) (ht : tidy l.toArray = true) (hB : tailB l.toArray n = true)
    (hC : C w.drew) (h : wpK P l.toArray C (fun a' => ∀ w', C w' → wpList P l.toArray Q (l.drop n) a' w') (l.take n) a) : wpAny P .any l.toArray Q l.toArray.size (Array.replicate l.toArray.size false) a { w with drawn := w.drawn + 1 } := by
  obtain ⟨vals, hq, hs⟩ := wpK_vals _ _ h
  refine region_coreA (Γ := Unit) (C := fun _ _ w => C w) n ht hB () hC (fun _ => vals) (fun i o hi γ L w _ _ hC' => ⟨(), fun _ _ => rfl, ?_⟩) (fun _ L w' _ hC' => hq w' hC')
  rcases hs i o hi with ⟨h1, h2⟩ | ⟨h1, h2⟩
  · exact .inl ⟨h1, h2 w hC'⟩
  · exact .inr ⟨h1, h2, hC'⟩

theorem region_coreEA {Q : Exit → Act → World → Prop} {Γ : Type} {C : Γ → Array Bool → World → Prop} {a : Act} {w : World} {l : List Oper} (n : Nat) (ht : tidy l.toArray = true) (hB : tailB l.toArray n = true)
    (γ0 : Γ) (hC : C γ0 (Array.replicate l.length false) w.drew) (vals : Γ → Nat → Value)
    (hs : ∀ i o, (l.take n)[i]? = some o → ∀ γ L w, L.size = l.length → i ∈ Region.ready .any l.toArray L → C γ L w →
      ((Region.wanted o (yielded l.toArray (lexF (l.take n) (vals γ) i a).tmps) = true ∧ GivesE P o (lexF (l.take n) (vals γ) i a) w (fun v w' => ∃ γ', (∀ j, L.getD j false = true → vals γ j = vals γ' j) ∧ vals γ' i = v ∧ C γ' (L.setIfInBounds i true) w')) ∨
      (Region.wanted o (yielded l.toArray (lexF (l.take n) (vals γ) i a).tmps) = false ∧ ∃ γ', (∀ j, L.getD j false = true → vals γ j = vals γ' j) ∧ vals γ' i = undef ∧ C γ' (L.setIfInBounds i true) w)))
    (hq : ∀ γ L w', (∀ i, i < n → L.getD i false = true) → C γ L w' → wpList P l.toArray Q (l.drop n) (lexF (l.take n) (vals γ) (l.take n).length a) w') : wpAny P .any l.toArray Q l.toArray.size (Array.replicate l.toArray.size false) a { w with drawn := w.drawn + 1 } := by
  have hn : n ≤ l.toArray.size := by
    simp only [tailB, Bool.or_eq_true, Bool.and_eq_true, decide_eq_true_eq] at hB
    rcases hB with h | h <;> omega
  have hlen : (l.take n).length = n := by rw [List.length_take]; simp at hn; omega
  simp only [hlen] at hq
  have hfr : ∀ (γ : Γ) i, i ≤ n → lexF (l.take n) (vals γ) i a = fr l.toArray (vals γ) (fun j => decide (j < i)) l.toArray.size a := fun γ i hi => by
    have := lexF_fr (ops := l.toArray) (vals := vals γ) (a := a) hn i hi
    simpa using this
  have H := head_anyE (P := P) (ops := l.toArray) (n := n) (g := l.toArray.size - n) (Q := Q) (vals := vals) (C := C) (a0 := a) ht hn
    (fun k o hk ho γ L w' hsz _ hr hC' => by
      have hko : (l.take n)[k]? = some o := by rw [List.getElem?_take_of_lt hk]; simpa using ho
      have := hs k o hko γ L w' (by simpa using hsz) hr hC'
      rwa [hfr γ k (by omega)] at this)
    (fun L hL hcl htl i hi hun t hr => by
      obtain ⟨hunt, o, ho, _⟩ := mem_ready.1 hr
      have hto : t < l.toArray.size := (Array.getElem?_eq_some_iff.1 ho).1
      simp only [tailB, Bool.or_eq_true, Bool.and_eq_true, decide_eq_true_eq] at hB
      rcases hB with hB | ⟨⟨⟨hB1, hB2⟩, hB3⟩, _⟩
      · omega
      · rcases Nat.lt_or_ge t n with h | h
        · exact h
        · exact absurd hr (tail_waits hB2 hB3 hB1 ⟨hL, hcl, htl⟩ _ i rfl hi hun t h))
    (fun γ L w' hL hall htl hC' => by
      rw [← hfr γ n (Nat.le_refl n)]
      have hlist := hq γ L w' hall hC'
      have hLe : L = tailL n (l.toArray.size - n) := by
        apply Array.ext_getElem?
        intro j
        unfold tailL
        rw [show ((List.replicate n true ++ List.replicate (l.toArray.size - n) false).toArray)[j]? = (List.replicate n true ++ List.replicate (l.toArray.size - n) false)[j]? from List.getElem?_toArray .., List.getElem?_append]
        simp only [List.length_replicate]
        by_cases hj : j < n
        · have := hall j hj
          rw [if_pos hj]
          simp [show j < L.size by omega] at this
          simp [hj, show j < L.size by omega, this]
        · rw [if_neg hj]
          by_cases hj2 : j < l.toArray.size
          · have := htl j (by omega) hj2
            simp [show j < L.size by omega] at this
            rw [Array.getElem?_eq_getElem (by omega), this, List.getElem?_replicate, if_pos (by omega)]
          · rw [Array.getElem?_eq_none (by omega), List.getElem?_replicate, if_neg (by omega)]
      simp only [tailB, Bool.or_eq_true, Bool.and_eq_true, decide_eq_true_eq] at hB
      rcases hB with hB | ⟨⟨⟨hB1, hB2⟩, hB3⟩, hB4⟩
      · rw [show l.toArray.size - n = 0 by omega]
        have hd : l.drop n = [] := List.drop_eq_nil_of_le (by simp at hB; omega)
        rw [hd] at hlist
        refine ⟨?_, hlist⟩
        apply List.eq_nil_iff_forall_not_mem.2
        intro t hr
        obtain ⟨hunt, o, ho, _⟩ := mem_ready.1 hr
        have hto : t < l.toArray.size := (Array.getElem?_eq_some_iff.1 ho).1
        have := hall t (by omega)
        rw [getD_both hunt] at this
        cases this
      · have hdl : (l.drop n).length = l.toArray.size - n := by simp
        have := wpAny_of_seq (P := P) (ops := l.toArray) (md := .any) (Q' := Q) (l.drop n) n L _ w' (fun j => by simp [List.getElem?_drop]) (by rw [hdl, hLe]; exact hB4) hlist
        rwa [hdl] at this)
    (cnt n (Array.replicate l.toArray.size false)) γ0 (Array.replicate l.toArray.size false) w.drew (by simp) (fun j o _ hl => by rw [getD_replicate_false] at hl; cases hl)
    (fun t _ hts => getD_in (by simpa using hts) (getD_replicate_false _ _)) rfl (by simpa using hC)
  have hc : cnt n (Array.replicate l.toArray.size false) = n := by
    unfold cnt
    have : ∀ i ∈ List.range n, (!(Array.replicate l.toArray.size false).getD i true) = true := fun i hi => by
      have hi' := List.mem_range.1 hi
      have : i < l.length := by simp at hn; omega
      simp [this]
    rw [List.countP_eq_length.2 this, List.length_range]
  rw [hc, show n + (l.toArray.size - n) = l.toArray.size by omega] at H
  have hz : fr l.toArray (vals γ0) (fun j => (Array.replicate l.toArray.size false).getD j false) l.toArray.size a = a := by
    rw [fr_congr (l' := fun j => decide (j < 0)) fun j _ => by rw [getD_replicate_false]; simp]
    have := fr_stop (ops := l.toArray) (vals := vals γ0) (k := 0) l.toArray.size a
    rw [Nat.zero_add] at this
    exact this
  rw [hz] at H
  exact H

theorem any_ex {Q : Exit → Act → World → Prop} {C : (Nat → Bool) → World → Prop} {S : Nat → Value → Prop} {D : Nat → (Nat → Value) → World → Prop} {K : Nat → (Nat → Value) → World → World → Prop} {a : Act} {w : World} {l : List Oper} (n : Nat)
    (ht : tidy l.toArray = true) (hB : tailB l.toArray n = true)
    (v0 : Nat → Value) (h0 : ∀ j, S j (v0 j)) (hD : ∀ i j vs w w', i < n → j ≠ i → Region.waitsFor .any l.toArray j i = false → D j vs w → K i vs w w' → D j vs w')
    (hL : ∀ j i vs v w, j ≠ i → Region.waitsFor .any l.toArray j i = false → D j vs w → D j (updV vs i v) w)
    (hC : C (fun _ => false) w.drew)
    (h : ∀ vs : Nat → Value, wpE P l.toArray S D K C (fun vs a' => ∀ d w', (∀ k, k < n → d k = true) → C d w' → (∀ k, k < n → D k vs w') → wpList P l.toArray Q (l.drop n) a' w') 0 vs (l.take n) a) : wpAny P .any l.toArray Q l.toArray.size (Array.replicate l.toArray.size false) a { w with drawn := w.drawn + 1 } := by
  refine region_coreEA (Γ := {vs : Nat → Value // ∀ j, S j (vs j)}) (C := fun γ L w' => C (fun j => L.getD j false) w' ∧ Closed l.toArray L ∧ ∀ k, k < n → L.getD k false = true → D k γ.1 w') n ht hB ⟨v0, h0⟩
    ⟨by rw [show (fun j => (Array.replicate l.length false).getD j false) = fun _ => false from funext fun j => getD_replicate_false _ j]; exact hC, (fun j o _ hl => by rw [getD_replicate_false] at hl; cases hl), fun k _ hk => by rw [getD_replicate_false] at hk; cases hk⟩ (fun γ => γ.1) ?_ ?_
  · intro i o hi γ L w' hsz hr ⟨hC', hcl, hDs⟩
    have hin : i < n := by
      have := (List.getElem?_eq_some_iff.1 hi).1
      rw [List.length_take] at this; omega
    have hun := getD_both (mem_ready.1 hr).1
    have hlt : i < L.size := by
      obtain ⟨o', ho', _⟩ := (mem_ready.1 hr).2
      have := (Array.getElem?_eq_some_iff.1 ho').1
      simp at this; omega
    have hup : (fun j => (L.setIfInBounds i true).getD j false) = upB (fun j => L.getD j false) i := funext fun j => by
      unfold upB
      by_cases e : j = i
      · subst e; rw [if_pos rfl]; simp [hlt]
      · rw [if_neg e, getD_set_ne false (Ne.symm e)]
    have hcl2 := closed_set hcl hr
    have key := (wpE_at γ.2 (l.take n) 0 a (h γ.1)).2 i o hi
    simp only [Nat.zero_add] at key
    have hwait : ∀ j, Region.waitsFor .any l.toArray i j = true → D j γ.1 w' := fun j hj => by
      have h1 := waits_ready hr hj
      have hji : j < i := by
        obtain ⟨o2, ho2, e2, he2, hb2, hon⟩ := Region.waitsFor_spec hj
        have := tidy_edge ht ho2 e2 he2 hb2
        omega
      exact hDs j (by omega) h1
    have step : ∀ (v : Value) (w2 : World), C (upB (fun j => L.getD j false) i) w2 → (w2 = w' ∨ K i γ.1 w' w2) → D i (updV γ.1 i v) w2 →
        C (fun j => (L.setIfInBounds i true).getD j false) w2 ∧ Closed l.toArray (L.setIfInBounds i true) ∧ ∀ k, k < n → (L.setIfInBounds i true).getD k false = true → D k (updV γ.1 i v) w2 := fun v w2 hc hb hd => by
      refine ⟨by rw [hup]; exact hc, hcl2, fun k hk hL' => ?_⟩
      by_cases e : k = i
      · subst e; exact hd
      · rw [getD_set_ne false (Ne.symm e)] at hL'
        have hw : Region.waitsFor .any l.toArray k i = false := by
          cases hx : Region.waitsFor .any l.toArray k i with
          | false => rfl
          | true =>
            have := waits_closed hcl hL' hx
            rw [hun] at this
            cases this
        refine hL k i _ v _ e hw ?_
        rcases hb with rfl | hb
        · exact hDs k hk hL'
        · exact hD i k _ _ _ hin e hw (hDs k hk hL') hb
    have upd : ∀ v, S i v → ∀ j, S j (updV γ.1 i v j) := fun v hv j => by
      by_cases e : j = i
      · subst e; rw [updV_self]; exact hv
      · rw [updV_ne _ _ e]; exact γ.2 j
    have keep : ∀ v j, L.getD j false = true → γ.1 j = updV γ.1 i v j := fun v j hj => by
      have : j ≠ i := fun e => by subst e; rw [hun] at hj; cases hj
      rw [updV_ne _ _ this]
    rcases key with ⟨k1, k2⟩ | ⟨k1, k2, k3, k4⟩
    · refine .inl ⟨k1, givesE_mono (k2 _ w' hun hC' hwait) fun v w2 ⟨h1, h2, h3, h4⟩ => ⟨⟨updV γ.1 i v, upd v h1⟩, keep v, updV_self _ _ _, step v w2 h2 (.inr h3) h4⟩⟩
    · exact .inr ⟨k1, ⟨updV γ.1 i undef, upd undef k2⟩, keep undef, updV_self _ _ _, step undef w' (k3 _ _ hC') (.inl rfl) (k4 w')⟩
  · intro γ L w' hall ⟨hC', _, hDs⟩
    have key := (wpE_at γ.2 (l.take n) 0 a (h γ.1)).1
    have ez : (fun i => γ.1 (0 + i)) = γ.1 := funext fun i => by rw [Nat.zero_add]
    rw [ez] at key
    exact key _ w' hall hC' fun k hk => hDs k hk (hall k hk)
end
theorem any_y {Q : Exit → Act → World → Prop} {a : Act} {w : World} {l : List Oper} (fx : List (Option Value)) (sp : List (Nat × Sp)) (hsp : ∀ x ∈ sp, x.2.ok)
    (n : Nat) (ht : tidy l.toArray = true) (hB : tailB l.toArray n = true)
    (h : ∀ vs : Nat → Value, wpE Tryd.prog l.toArray (yS fx sp) (yD sp) (fun _ _ w w' => Below w.heap.size w w') (fun _ w' => Below w.heap.size w w') (fun vs a' => ∀ (d : Nat → Bool) w', (∀ k, k < n → d k = true) → Below w.heap.size w w' → (∀ k, k < n → yD sp k vs w') → wpList Tryd.prog l.toArray Q (l.drop n) a' w') 0 vs (l.take n) a) :
    wpAny Tryd.prog .any l.toArray Q l.toArray.size (Array.replicate l.toArray.size false) a { w with drawn := w.drawn + 1 } :=
  any_ex (S := yS fx sp) (D := yD sp) (K := fun _ _ w w' => Below w.heap.size w w') (C := fun _ w' => Below w.heap.size w w') n ht hB _ (yS_ok fx hsp) (fun i j vs w w' _ _ _ h hb => yD_keep hsp h hb)
    (fun j i vs v w hji _ h => yD_loc hji h) (Below.refl _ _).drew h
/-! ### Into a round -/
def plainOp (o : Oper) : Bool := match o.op with | .defer _ => false | _ => true
section
variable {P : Program} {Q : Exit → Act → World → Prop} {n lo : Nat} {md : Region.Mode}
theorem plain_at {l : List Oper} (h : l.all plainOp = true) {i : Nat} {o : Oper} (ho : l.toArray[i]? = some o) : ∀ c, o.op ≠ Op.defer c := by
  intro c e
  have hm : o ∈ l := by
    rw [List.getElem?_toArray] at ho
    exact List.mem_of_getElem? ho
  have := List.all_eq_true.1 h o hm
  unfold plainOp at this
  rw [e] at this
  cases this
theorem opIn_of {o : Oper} {a : Act} {w : World} {K : Act → World → Prop} (hnd : ∀ c, o.op ≠ Op.defer c) (h : o.wp P a w K Q) : o.wpIn (Fence.wide.inRound lo) n P a w K Q := by
  unfold Oper.wpIn
  unfold Oper.wp at h
  refine ⟨fun _ _ => trivial, ?_⟩
  rw [Oper.semAt_eq _ _ _ hnd]
  generalize (execOp a.eval o).run P w = r at *
  cases r with
  | ok x w' =>
    cases x <;> simp only [Oper.upon, Oper.uponIn] at h ⊢
    case value => exact h
    case skip => exact h
    case defer => exact h
    case enter f args =>
      refine ⟨(fun h => by cases h), CallsIn.inRound lo ((callsIn_wide.2 h).mono fun e w'' he => ?_)⟩
      cases e <;> exact he
    case row row args =>
      refine ⟨(fun h => by cases h), fun c cs _ => ?_⟩
      obtain ⟨v, w2, hr, hs⟩ := h c cs
      exact ⟨v, w2, hr, stepsIn_wide.2 hs⟩
  | halt x w' => cases x <;> simp only [Oper.upon, Oper.uponIn] at h ⊢ <;> exact h
theorem anyIn_of {ops : Array Oper} (hnd : ∀ (i : Nat) (o : Oper), ops[i]? = some o → ∀ c, o.op ≠ Op.defer c) (hL : ¬ LetsOut Q) : ∀ (fuel : Nat) (listed : Array Bool) (a : Act) (w : World), wpAny P md ops Q fuel listed a w → wpAnyIn (Fence.wide.inRound lo) n P md ops Q fuel listed a w
  | 0, _, _, _, h => h
  | fuel + 1, listed, a, w, h => by
    refine ⟨h.1, fun i hi => ?_⟩
    have h1 := h.2 i hi
    unfold wpOp at h1
    unfold wpOpIn
    cases ho : ops[i]? with
    | none =>
      simp only [ho] at h1 ⊢
      exact anyIn_of hnd hL fuel _ _ _ h1
    | some o =>
      simp only [ho] at h1 ⊢
      by_cases hw : Region.wanted o (yielded ops a.tmps) = true
      · rw [if_pos hw] at h1 ⊢
        rcases h1 with h1 | h1
        · exact Oper.wpIn_mono (fun a w => anyIn_of hnd hL fuel _ a w) (opIn_of (hnd i o ho) h1)
        · exact absurd h1.2 hL
      · rw [if_neg hw] at h1 ⊢
        exact ⟨fun _ _ => trivial, anyIn_of hnd hL fuel _ _ _ h1⟩
/-- A region that draws its order, within a round. -/
theorem wpi_region_tail {id : Nat} {C : World → Prop} {a : Act} {w : World} {l : List Oper} (m : Nat) (hm : P.follows .mixedOrders = true) (hp : l.all plainOp = true) (hL : ¬ LetsOut Q) (ht : tidy l.toArray = true) (hB : tailB l.toArray m = true)
    (hC : C w.drew) (h : wpK P l.toArray C (fun a' => ∀ w', C w' → wpList P l.toArray Q (l.drop m) a' w') (l.take m) a) : (Code.region id l.toArray true).wpIn (Fence.wide.inRound lo) n P Q a w :=
  wpIn_region_any hm (anyIn_of (fun _ _ ho => plain_at hp ho) hL _ _ _ _ (any_tail m ht hB hC h))
end
theorem wpi_region_y {id : Nat} {n lo : Nat} {Q : Exit → Act → World → Prop} {a : Act} {w : World} {l : List Oper} (fx : List (Option Value)) (sp : List (Nat × Sp)) (hsp : ∀ x ∈ sp, x.2.ok)
    (m : Nat) (hm : Tryd.prog.follows .mixedOrders = true) (hp : l.all plainOp = true) (hL : ¬ LetsOut Q) (ht : tidy l.toArray = true) (hB : tailB l.toArray m = true)
    (h : ∀ vs : Nat → Value, wpE Tryd.prog l.toArray (yS fx sp) (yD sp) (fun _ _ w w' => Below w.heap.size w w') (fun _ w' => Below w.heap.size w w') (fun vs a' => ∀ (d : Nat → Bool) w', (∀ k, k < m → d k = true) → Below w.heap.size w w' → (∀ k, k < m → yD sp k vs w') → wpList Tryd.prog l.toArray Q (l.drop m) a' w') 0 vs (l.take m) a) :
    (Code.region id l.toArray true).wpIn (Fence.wide.inRound lo) n Tryd.prog Q a w :=
  wpIn_region_any hm (anyIn_of (fun _ _ ho => plain_at hp ho) hL _ _ _ _ (any_y fx sp hsp m ht hB h))
end Go.Proofs.YtdmnhpgafbcehaaDoor
set_option maxRecDepth 100000
namespace Go.Proofs.YtdmnhpgafbcehaaDoor
open Go.ChangeShapes Go.WideShapes Go.ChangeAt Go.RowKit Go.Shelf
attribute [local go_sem] Gives GivesE
attribute [local go_sem] Oper.semAt_some
namespace TrM
open TgP RwP StM
/-- Blocks that a walk's book-keeping may turn. -/
def Wk (B : Nat) (X : World) (b : Nat) : Prop := B ≤ b ∧ ∃ o : Obj, X.heap[b]? = some o ∧ o.isCells = false
theorem not_walk {X : World} {B b : Nat} {t : TypeId} {cs : Array Value} (h : Blk X b t cs) : ¬ Wk B X b := by
  rintro ⟨_, o, ho, hc⟩
  rw [show X.heap[b]? = _ from h] at ho
  cases ho
  cases hc
theorem row_walk {X : World} {B B' : Nat} {e : TypeId} {size m : Nat} {v : Value} {xs : List Value} (h : X.ownsRow B' e size v m xs) : ∀ b, v.ownBlock = some b → ¬ Wk B X b := by
  rintro b hb ⟨_, o, ho, hc⟩
  rcases h.2 with ⟨rfl, _⟩ | ⟨g, cap, cur, rfl, _, hg, _⟩
  · cases hb
  · cases hb
    rw [hg] at ho
    cases ho
    cases hc
theorem ownX_walk {X : World} {α : Type} {E : TypeId} {k : Nat} {en : α → List Value} {B B' : Nat} {v : Value} {l : List α} (h : OwnX E k en X B' v l) : ∀ b, v.ownBlock = some b → ¬ Wk B X b := row_walk (X := X) (B' := B') (e := E) (size := k) (m := l.length) (xs := l.flatMap en) h
theorem own_slice {X : World} {α : Type} {E : TypeId} {k : Nat} {en : α → List Value} {B' : Nat} {v : Value} {l : List α} (h : OwnX E k en X B' v l) : ∃ A m c, v = .slice A m c := by
  rcases h.2 with ⟨rfl, _⟩ | ⟨g, cap, cur, rfl, _⟩
  · exact ⟨_, _, _, rfl⟩
  · exact ⟨_, _, _, rfl⟩
theorem ownFrom_turn {β : Type} {B : Nat} {I : β → World → Prop} (h : ∀ s X Y, I s X → Turn (Wk B X) X Y → I s Y) : OwnFrom B I := fun s X Y row hs hg hr => h s X Y hs (Turn.of_grown hg fun k e => hr k e)
theorem keepsFrom_turn {B : Nat} {S : Nat → Prop} {W W' : World} (ht : Turn S W W') (hS : ∀ k, S k → ∃ o : Obj, W.heap[k]? = some o ∧ o.isCells = true) : KeepsFrom B W W' :=
  ⟨ht.size, fun k o _ hk ho => by
    by_cases e : S k
    · obtain ⟨o2, h2, h3⟩ := hS k e
      rw [hk] at h2
      cases h2
      rw [ho] at h3
      cases h3
    · exact (ht.block k (Array.getElem?_eq_some_iff.1 hk).1 e).trans hk⟩
theorem blk_cells {X : World} {b : Nat} {t : TypeId} {cs : Array Value} (h : Blk X b t cs) : ∃ o : Obj, X.heap[b]? = some o ∧ o.isCells = true := ⟨_, h, rfl⟩
set_option maxHeartbeats 800000 in
theorem proof_bad {v : Value} {n : Nat} {w : World} (hv : ∃ p, v = .pointer p) (H : Lv v n w) (j E : Int) (hE : findV n j 0 (n : Nat) = E) (hE0 : E ≠ 0) :
    Calls Tryd.prog 19 #[v, .int .i64 j] w fun e w' => e = .returned (.tuple #[.slice none 0 0, .int .i64 E]) ∧ Below w.heap.size w w' := by
  obtain ⟨p, rfl⟩ := hv
  have hE2 : E = 1 ∨ E = 2 := by rw [← hE]; exact findV_bad (by rw [hE]; exact hE0)
  have HE := hid hE
  clear hE hE0
  have hz := hid (show Blk (w.alloc (.cells #[.pointer p] 29)) w.heap.size 29 #[.pointer p] from Blk.new _ _ _)
  have hbz := hid (show Below w.heap.size w (w.alloc (.cells #[.pointer p] 29)) from (Below.refl _ _).alloc (Nat.le_refl _) _)
  have L := hid (H.on hbz.out)
  clear H
  rcases hE2 with rfl | rfl
  all_goals
    go_enter Tryd.func19, Tryd.ntmps19
    go_upto_region 1 with fail
    generalize World.alloc w _ = w1 at hz hbz L ⊢
    have cz := hid (hz.out.cell 0)
    have hzl := hz.out.lt
    refine wp_region_tail (C := fun w' => Below w1.heap.size w1 w') 5 (by kernel_rfl) (by kernel_rfl) (by kernel_rfl) (Below.refl _ _).drew ?_
    simp only [List.take_succ_cons, List.take_zero, List.drop_succ_cons, List.drop_zero]
    apply wpK_val
    · rfl
    · intro w' hw'
      have hcell := (hw'.cell (p := ⟨w.heap.size, 0, none⟩) hzl).trans cz.out
      go_simp
      first | exact rfl | exact ⟨rfl, hw'⟩
    simp only [Act.put, List.setIfInBounds_toArray, List.set_cons_succ, List.set_cons_zero]
    apply wpK_val
    · rfl
    · intro w' hw'
      go_simp
      first | exact rfl | exact ⟨rfl, hw'⟩
    simp only [Act.put, List.setIfInBounds_toArray, List.set_cons_succ, List.set_cons_zero]
    apply wpK_val
    · rfl
    · intro w' hw'
      have hcell := (hw'.cell (p := ⟨w.heap.size, 0, none⟩) hzl).trans cz.out
      go_simp
      first | exact rfl | exact ⟨rfl, hw'⟩
    simp only [Act.put, List.setIfInBounds_toArray, List.set_cons_succ, List.set_cons_zero]
    apply wpK_val
    · rfl
    · intro w' hw'
      go_simp
      exact (L.out w' hw').mono fun e w5 h => ⟨h.1, h.2 ▸ hw'⟩
    simp only [Act.put, List.setIfInBounds_toArray, List.set_cons_succ, List.set_cons_zero]
    apply wpK_val
    · rfl
    · intro w' hw'
      go_simp
      exact (find_any ⟨_, rfl⟩ (L.out.on hw') j 0 n).mono fun e w5 h => ⟨by rw [h.1, HE.out], h.2 ▸ hw'⟩
    simp only [Act.put, List.setIfInBounds_toArray, List.set_cons_succ, List.set_cons_zero]
    refine wpK_nil fun w2 h2 => ?_
    have B2 := hid (hbz.out.trans (h2.mono hbz.out.size))
    clear h2
    go_wp2_with fail
    go_ret2
    exact ⟨rfl, B2.out⟩
set_option maxHeartbeats 1600000 in
set_option maxRecDepth 100000 in
theorem proof_yes {w : World} {g gl cl N n h : Nat} {k : Nat → Nat} {F : Nat → Nat → Nat} (H : PT w g gl cl k N F) (hN : N = 2 * n) (hn : n = 2 ^ h) (hh : okH h) (leaf : Nat) (hl : leaf < n) :
    Calls Tryd.prog 19 #[pT g, .int .i64 (leaf : Nat)] w fun e w' => ∃ v, e = .returned (.tuple #[v, .int .i64 0]) ∧ OwnX 50 64 (arL 64) w' w.heap.size v ((pthL h leaf).map fun x => joined (F (2 * x)) (F (2 * x + 1))) ∧ Below w.heap.size w w' := by
  have h12 : h ≤ 12 := by have := hh.2; omega
  have hn4 : n ≤ 4096 := by rw [hn]; exact pow_le h12
  have hn1 : 1 ≤ n := by omega
  have HE := hid (findV_ok (n := n) (j := (leaf : Nat)) (a := 0) (b := (n : Nat)) hn1 (by omega) (by omega))
  have HH := hid H
  have L0 := hid (H.lv hN hn4)
  have hl2 := hid (show leaf < 2 ^ h by omega)
  obtain ⟨Y, hY⟩ : ∃ Y, Y = n + leaf := ⟨_, rfl⟩
  have YE := hid (show Y = 2 ^ h + leaf by omega)
  have t1 : (n : Int) + (leaf : Int) = (Y : Int) := by omega
  have hY8 : Y ≤ 8192 := by omega
  have hz := hid (show Blk (w.alloc (.cells #[pT g] 29)) w.heap.size 29 #[pT g] from Blk.new _ _ _)
  have hbz := hid (show Below w.heap.size w (w.alloc (.cells #[pT g] 29)) from (Below.refl _ _).alloc (Nat.le_refl _) _)
  have NH := hid hn
  have hgw := H.lt.1
  have hglw := H.lt.2
  have hN8 : N ≤ 8192 := by omega
  have hNa : 2 * n ≤ N := by omega
  clear H hY hn hN
  refine (callsIn_wide (n := 7)).1 ?_
  refine callsIn_of_wp_marks Tryd.func19 rfl trivial ?_ rfl
  simp only [Tryd.ntmps19, List.size_toArray, List.length_cons, List.length_nil, Nat.reduceAdd, Nat.reduceSub, Array.replicate_succ, Array.replicate_zero, List.push_toArray, List.append_toArray, List.nil_append, List.cons_append]
  gi_upto_region 1 with fail
  generalize World.alloc w _ = w1 at hz hbz ⊢
  have P1 := hid (HH.out.below hbz.out)
  have L1 := hid (L0.out.on hbz.out)
  have cz := hid (hz.out.cell 0)
  have hzl := hz.out.lt
  clear HH L0
  have FD := hid (fun (w' : World) (hw' : Below w1.heap.size w1 w') => find_any ⟨_, rfl⟩ (L1.out.on hw') (leaf : Nat) 0 (n : Nat))
  rw [HE.out] at FD
  refine wpIn_wide.2 ?_
  refine wp_region_tail (C := fun w' => Below w1.heap.size w1 w') 5 (by kernel_rfl) (by kernel_rfl) (by kernel_rfl) (Below.refl _ _).drew ?_
  simp only [List.take_succ_cons, List.take_zero, List.drop_succ_cons, List.drop_zero]
  apply wpK_val
  · rfl
  · intro w' hw'
    have hcell := (hw'.cell (p := ⟨w.heap.size, 0, none⟩) hzl).trans cz.out
    go_simp
    first | exact rfl | exact ⟨rfl, hw'⟩
  simp only [Act.put, List.setIfInBounds_toArray, List.set_cons_succ, List.set_cons_zero]
  apply wpK_val
  · rfl
  · intro w' hw'
    go_simp
    first | exact rfl | exact ⟨rfl, hw'⟩
  simp only [Act.put, List.setIfInBounds_toArray, List.set_cons_succ, List.set_cons_zero]
  apply wpK_val
  · rfl
  · intro w' hw'
    have hcell := (hw'.cell (p := ⟨w.heap.size, 0, none⟩) hzl).trans cz.out
    go_simp
    first | exact rfl | exact ⟨rfl, hw'⟩
  simp only [Act.put, List.setIfInBounds_toArray, List.set_cons_succ, List.set_cons_zero]
  apply wpK_val
  · rfl
  · intro w' hw'
    go_simp
    exact (L1.out w' hw').mono fun e w5 h => ⟨h.1, h.2 ▸ hw'⟩
  simp only [Act.put, List.setIfInBounds_toArray, List.set_cons_succ, List.set_cons_zero]
  apply wpK_val
  · rfl
  · intro w' hw'
    go_simp
    exact (FD.out w' hw').mono fun e w5 h => ⟨h.1, h.2 ▸ hw'⟩
  simp only [Act.put, List.setIfInBounds_toArray, List.set_cons_succ, List.set_cons_zero]
  refine wpK_nil fun w2 h2 => ?_
  have B2 := hid (hbz.out.trans (h2.mono hbz.out.size))
  have Z2 := hid (hz.out.below h2 hzl)
  have P2 := hid (P1.out.below h2)
  have L2 := hid (L1.out.on h2)
  clear h2 hz hbz P1 L1 cz hzl HE FD
  go_wp2_with fail
  gi_upto_region 5 with fail
  have B2s := hid B2.out.size
  have hz2l := Z2.out.lt
  have cl3 := hid (show Blk (w2.alloc (.cells #[.slice none 0 0] 55)) w2.heap.size 55 #[.slice none 0 0] from Blk.new _ _ _)
  have h3 := hid (show Below w2.heap.size w2 (w2.alloc (.cells #[.slice none 0 0] 55)) from (Below.refl _ _).alloc (Nat.le_refl _) _)
  generalize World.alloc w2 _ = w3 at cl3 h3 ⊢
  have B3 := hid (B2.out.trans (h3.out.mono B2.out.size))
  have Z3 := hid (Z2.out.below h3.out Z2.out.lt)
  have P3 := hid (P2.out.below h3.out)
  have L3 := hid (L2.out.on h3.out)
  have cz := Z3.out.cell 0
  clear h3 Z2 P2 L2
  gi_wp2
  refine ⟨trivial, (callsIn_wide.2 (L3.out w3 (Below.refl _ _))).mono ?_⟩
  rintro e w' ⟨rfl, rfl⟩
  gi_wp2
  refine ⟨trivial, (callsIn_wide.2 (above_any Y w3)).mono ?_⟩
  rintro e w4 ⟨rfl, h4, k4⟩
  have B4 := hid (B3.out.trans (h4.mono B3.out.size))
  have Z4 := hid (Z3.out.below h4 Z3.out.lt)
  have P4 := hid (P3.out.below h4)
  have bx4 := hid (cl3.out.below h4 cl3.out.lt)
  have kN := hid (k4.cell 0)
  have hb34 := h4.size
  have hc3l := cl3.out.lt
  have hk3l := k4.lt
  rw [YE.out] at kN
  have hz2 := Z3.out.lt
  clear h4 k4 Z3 P3 L3 cl3 cz B2
  obtain ⟨b7, hb7⟩ : ∃ b, b = w2.heap.size := ⟨_, rfl⟩
  obtain ⟨bN, hbN⟩ : ∃ b, b = w3.heap.size := ⟨_, rfl⟩
  rw [← hb7] at hc3l bx4
  rw [← hbN] at hk3l kN
  have hb7l : b7 < w4.heap.size := by omega
  have hb7w : w.heap.size < b7 := by rw [hb7]; exact hz2l
  have hb7N : b7 < bN := by omega
  have HB := hid (show ∀ W, Turn (Tl b7 w4.heap.size) w4 W → Below w.heap.size w W from fun W h => B4.out.trans (h.below (by have := B4.out.size; omega) fun k e => by unfold Tl at e; have := B4.out.size; omega))
  gi_wp2
  rw [← hb7, ← hbN]
  clear hb7 hbN
  refine wpIn_rangeFunc_ownG (α := Nd (2 ^ h)) rfl (by omega) (gf := 45) (lb := #[.pointer (some ⟨bN, 0, none⟩)]) rfl trivial (enters_of Tryd.func45 (by kernel_rfl) rfl)
    (encs := fun x => #[Value.int .i64 ((x.1 : Nat) : Int)]) (Kp := Turn (Tl b7 w4.heap.size)) (S := fun ys => vals ys = pthL h leaf) (Sp := fun pre => vals pre = (pthL h leaf).take pre.length ∧ pre.length ≤ h) (N := h) (w0 := w4)
    (fun l J Jx W hW _ _ hY h0 => above1_in l h leaf bN hh hl2.out (Tl b7 w4.heap.size) w4 kN.out (by unfold Tl; omega) J Jx hY W ((Turn.of_below hW).mono fun k e => .inr e) h0)
    (fun h1 h2 => h1.trans h2 fun _ e => .inl e) (fun W l o o' hl _ _ _ => turn_putObj W l o' (.inr hl)) (Below.refl _ _) (fun _ => rfl)
    (fun pre W => ∃ v, Boxed W b7 55 v ∧ OwnX 50 64 (arL 64) W w4.heap.size v (pre.map fun x => joined (F (2 * x.1)) (F (2 * x.1 + 1))) ∧ Turn (Tl b7 w4.heap.size) w4 W)
    (fun _ _ _ => False)
    (ownFrom_turn fun s X Y ⟨v, h1, h2, h3⟩ ht => ⟨v, Blk.turn h1 ht (not_walk h1), h2.turn ht (ownX_walk h2), h3.trans ht fun k e => .inl (.inr e.1)⟩)
    (fun _ _ _ _ _ hs _ _ => hs)
    ⟨_, bx4.out, OwnX.nil _ _ _ _ _, Turn.refl _ _⟩
    (fun x => { tmps := #[pT g, .int .i64 (leaf : Nat), .pointer (some ⟨w.heap.size, 0, none⟩), undef, .slice none 0 0, .int .i64 0, .int .i64 0, .pointer (some ⟨b7, 0, none⟩), .int .i64 ((x.1 : Nat) : Int), pT g, .int .i64 (leaf : Nat), pT g, .int .i64 (n : Nat), .int .i64 0, .int .i64 0, .bool false, undef, pT g, .int .i64 (n : Nat), .int .i64 (leaf : Nat), .int .i64 (Y : Nat), .func (.func 45) #[] #[.pointer (some ⟨bN, 0, none⟩)], .int .i64 ((x.1 : Nat) : Int), undef, undef, undef, undef, undef, undef, undef], defers := [] }) ?assign ?body ?done ?stop
  case assign =>
    intro l x W K hK
    gi_wp2
    exact hK
  case body =>
    rintro l pre x W ⟨v, hv, hrow, hT⟩ hlt
    have hx2 : x.1 < n := Nat.lt_of_lt_of_le x.2.2 (Nat.le_of_eq NH.out.symm)
    have HT := hid hT
    have HV := hid hv
    have HR := hid hrow
    have HL := hid (show (pre.map fun x => joined (F (2 * x.1)) (F (2 * x.1 + 1))).length + 1 ≤ 1000000 by rw [List.length_map]; omega)
    have PW := hid (P4.out.turn hT (by unfold Tl; omega) (by unfold Tl; omega))
    have cz := hid ((Z4.out.turn hT (by unfold Tl; omega)).cell 0)
    have zl := (World.block_lt_of_cell? _ _ cz.out)
    have c7 := hid hv.cell
    have c7l := hv.lt
    obtain ⟨s, hs⟩ : ∃ s, s = joined (F (2 * x.1)) (F (2 * x.1 + 1)) := ⟨_, rfl⟩
    have SEC := hid (fun (w' : World) (hw' : Below W.heap.size W w') => sector_any (PW.out.below hw') (by omega) x.1 (by omega))
    rw [← hs] at SEC
    have SE := hid hs
    obtain ⟨xx, hxx⟩ : ∃ y, y = x.1 := ⟨_, rfl⟩
    rw [← hxx] at SEC hx2 ⊢
    have XE := hid hxx
    clear hv hrow hT hs hxx
    gi_wp2
    refine wpi_region_y [some v, some (pT g), some (.int .i64 (xx : Nat)), some (.agg (ar 64 s))] [(4, spX 64 (arL 64) (fun b => W.heap.size ≤ b) [s])] (fun y hy => by simp only [List.mem_cons, List.not_mem_nil, or_false] at hy; subst hy; exact spX_ok _ _ _ _) 5 (by kernel_rfl) (by kernel_rfl) (by rintro ⟨_, _, h⟩; exact h) (by kernel_rfl) (by kernel_rfl) fun vs => ?_
    simp only [List.take_succ_cons, List.take_zero, List.drop_succ_cons, List.drop_zero]
    refine ⟨.inl ⟨rfl, fun dd w' hd hC hDs => ?_⟩, fun e => ?_⟩
    · have h1 : w'.cell? ⟨b7, 0, none⟩ = some v := (hC.cell (p := ⟨b7, 0, none⟩) c7l).trans c7.out
      go_simp
      first | exact ⟨rfl, hC, Below.refl _ _, trivial⟩ | exact ⟨rfl, Below.refl _ _, trivial⟩ | exact ⟨hC, Below.refl _ _, trivial⟩
    have e' : vs 0 = _ := e
    rw [e']
    clear e e'
    simp only [Act.put, List.setIfInBounds_toArray, List.set_cons_succ, List.set_cons_zero]
    refine ⟨.inl ⟨rfl, fun dd w' hd hC hDs => ?_⟩, fun e => ?_⟩
    · have h1 : w'.cell? ⟨w.heap.size, 0, none⟩ = some (pT g) := (hC.cell (p := ⟨w.heap.size, 0, none⟩) zl).trans cz.out
      go_simp
      first | exact ⟨rfl, hC, Below.refl _ _, trivial⟩ | exact ⟨rfl, Below.refl _ _, trivial⟩ | exact ⟨hC, Below.refl _ _, trivial⟩
    have e' : vs 1 = _ := e
    rw [e']
    clear e e'
    simp only [Act.put, List.setIfInBounds_toArray, List.set_cons_succ, List.set_cons_zero]
    refine ⟨.inl ⟨rfl, fun dd w' hd hC hDs => ?_⟩, fun e => ?_⟩
    · go_simp
      first | exact ⟨rfl, hC, Below.refl _ _, trivial⟩ | exact ⟨rfl, Below.refl _ _, trivial⟩ | exact ⟨hC, Below.refl _ _, trivial⟩
    have e' : vs 2 = _ := e
    rw [e']
    clear e e'
    simp only [Act.put, List.setIfInBounds_toArray, List.set_cons_succ, List.set_cons_zero]
    refine ⟨.inl ⟨rfl, fun dd w' hd hC hDs => ?_⟩, fun e => ?_⟩
    · go_simp
      refine (SEC.out w' hC).mono ?_
      rintro e w2 ⟨rfl, h2⟩
      exact ⟨_, rfl, rfl, hC.trans (h2.mono hC.size), h2, trivial⟩
    have e' : vs 3 = _ := e
    rw [e']
    clear e e'
    simp only [Act.put, List.setIfInBounds_toArray, List.set_cons_succ, List.set_cons_zero]
    refine ⟨.inl ⟨rfl, fun dd w' hd hC hDs => ?_⟩, fun e => ?_⟩
    · have ha := (Below.refl w'.heap.size w').alloc (Nat.le_refl _) (.cells (arL 64 s).toArray 50)
      exact gE_lit1 (x := s) (v := .agg (ar 64 s)) eltS Tryd.underlying55 (by omega) rfl rfl ⟨⟨_, _, rfl⟩, hC.trans (ha.mono hC.size), ha, yD_some rfl ⟨_, _, rfl, sli_lit1 eltS s w' hC.size⟩⟩
    obtain ⟨A8, c8, e'⟩ : ∃ (A : Option Addr) (c : Nat), vs 4 = .slice A 1 c := e
    rw [e']
    have E8 := hid e'
    clear e'
    simp only [Act.put, List.setIfInBounds_toArray, List.set_cons_succ, List.set_cons_zero]
    intro dd w7 hall h7 hDs
    obtain ⟨A', c', f, sl⟩ := hDs 4 (by omega)
    rw [E8.out] at f
    cases f
    have H7 := hid h7
    have o7 := hid (HR.out.below h7 (Nat.le_refl _))
    have v7 := hid (Blk.below HV.out h7 c7l)
    have SL := hid sl
    have hW4 := hid (show w4.heap.size ≤ w7.heap.size from Nat.le_trans HT.out.size h7.size)
    clear hall hDs h7 sl E8 SEC c7 cz
    go_wp2_with (at_builtin; (with_reducible apply wappX eltS Tryd.underlying55); rfl; rfl; exact o7.out; exact SL.out; exact HL.out; decide; exact hW4.out; intro v8 w8 o8 g8; obtain ⟨A9, m9, c9, rfl⟩ := own_slice o8; have b8 := v7.out.grownR g8 (fun y e => by have := (o7.out.own y e).1; omega); have c8 := b8.cell 0; have f8 := b8.frozen 0)
    have TT : Turn (fun k => k = b7 ∨ v.ownBlock = some k) W (w8.setCell ⟨b7, 0, none⟩ (.slice A9 m9 c9)) :=
      ((Turn.of_new (S := fun k => k = b7 ∨ v.ownBlock = some k) H7.out).trans (Turn.of_grown (S := fun k => k = b7 ∨ v.ownBlock = some k) g8 fun k e => .inr e) fun _ e => .inl e).trans (Turn.setCell (S := fun k => k = b7 ∨ v.ownBlock = some k) w8 ⟨b7, 0, none⟩ _ (.inl rfl)) fun _ e => .inl e
    have T2 : Turn (Tl b7 w4.heap.size) W (w8.setCell ⟨b7, 0, none⟩ (.slice A9 m9 c9)) := TT.mono fun k e => e.elim .inl fun e => .inr (HR.out.own k e).1
    refine ⟨keepsFrom_turn TT ?_, T2, ⟨_, (show Boxed w8 b7 _ _ from b8).set _, ?_, HT.out.trans T2 fun _ e => .inl e⟩⟩
    · rintro k (rfl | e)
      · exact blk_cells HV.out
      · obtain ⟨cur, hc⟩ := OwnX.obj HR.out e
        exact ⟨_, hc, rfl⟩
    · rw [List.map_append, List.map_cons, List.map_nil, ← SE.out]
      exact o8.turn (Turn.setCell (S := fun k => k = b7) w8 ⟨b7, 0, none⟩ _ rfl) fun b e e2 => by have := (o8.own b e).1; omega
  case done =>
    rintro D ys W hD hys ⟨v, hv, hrow, hT2⟩ hK
    have hc := hv.cell
    have hrow2 := hid (show OwnX 50 64 (arL 64) W w4.heap.size v ((pthL h leaf).map fun x => joined (F (2 * x)) (F (2 * x + 1))) by
      rw [← hys, vals, List.map_map]
      exact hrow)
    clear hrow
    gi_wp2
    refine ⟨by simp, .inl ⟨_, _, rfl, run_takeDeferred hK, ?_⟩⟩
    exact ⟨_, results_tmp2 rfl _ _ _, v, rfl, row_low (ownsRow_putObj hrow2.out _ hK rfl) (by omega), (HB.out W hT2).trans (belowK_b (w := w) (Nat.le_refl _) W D _ _ (by omega) hK rfl rfl)⟩
  case stop =>
    rintro D c pre W _ _ h _
    exact h.elim
end TrM
end Go.Proofs.YtdmnhpgafbcehaaDoor
set_option maxRecDepth 100000
namespace Go.Proofs.YtdmnhpgafbcehaaDoor
open Go.ChangeShapes Go.WideShapes Go.ChangeAt Go.RowKit Go.Shelf
attribute [local go_sem] Gives GivesE
attribute [local go_sem] Oper.semAt_some
namespace TrM
open TgP RwP StM
set_option maxHeartbeats 800000 in
set_option maxRecDepth 100000 in
theorem tagat_any (s : Nat → Nat) (b : Nat) (hb : b ≤ 100000) (w : World) : Calls Tryd.prog 39 #[.agg (ar 64 s), .int .i64 (b : Nat)] w fun e w' => e = .returned (.agg (ar 32 (half (b % 2) s))) ∧ Below w.heap.size w w' := by
  obtain ⟨r, hr⟩ : ∃ r, r = half (b % 2) s := ⟨_, rfl⟩
  have HR := hid hr
  rw [← hr]
  have t1 : (b : Int).tmod 2 = ((b % 2 : Nat) : Int) := by rw [Int.tmod_eq_emod_of_nonneg (by omega)]; omega
  have hm : b % 2 = 0 ∨ b % 2 = 1 := by omega
  have hz2 : Blk ((w.alloc (.cells (ar 64 s) 50)).alloc (.cells (ar 32 fun _ => 0) 36)) (w.heap.size + 1) 36 (ar 32 fun _ => 0) := Blk.top rfl (by simp)
  have hz1 : Blk ((w.alloc (.cells (ar 64 s) 50)).alloc (.cells (ar 32 fun _ => 0) 36)) w.heap.size 50 (ar 64 s) := (Blk.new _ _ _).alloc _
  have hbz : Below w.heap.size w ((w.alloc (.cells (ar 64 s) 50)).alloc (.cells (ar 32 fun _ => 0) 36)) := ((Below.refl _ _).alloc (Nat.le_refl _) _).alloc (by simp) _
  clear hr
  go_enter Tryd.func39, Tryd.ntmps39
  go_upto_region 1 with (with_reducible apply alA tT)
  try rw [show (w.alloc (.cells (ar 64 s) 50)).heap.size = w.heap.size + 1 by simp]
  generalize World.alloc (World.alloc w _) _ = w1 at hz1 hz2 hbz ⊢
  have hzl := hz2.lt
  go_wp2_with ((with_reducible apply ldA tS); rfl; exact hz1)
  refine (split_any s w1).mono ?_
  rintro e w2 ⟨rfl, h2⟩
  have Z2 := hid (hz2.below h2 hzl)
  have B2 := hid (hbz.trans (h2.mono hbz.size))
  have hl2 := Z2.out.lt
  have ha : Blk ((w2.alloc (.cells (ar 32 fun _ => 0) 36)).alloc (.cells (ar 32 fun _ => 0) 36)) w2.heap.size 36 (ar 32 fun _ => 0) := (Blk.new _ _ _).alloc _
  have hc : Blk (((w2.alloc (.cells (ar 32 fun _ => 0) 36)).alloc (.cells (ar 32 fun _ => 0) 36)).setRow w2.heap.size (ar 32 s)) (w2.alloc (.cells (ar 32 fun _ => 0) 36)).heap.size 36 (ar 32 fun _ => 0) := (Blk.new _ _ _).setRow_other (by simp) _
  clear hz1 hz2 hbz h2
  go_upto_region 2 with (first | (with_reducible apply alA tT) | ((with_reducible apply stA tT); rfl; rfl; exact ha) | ((with_reducible apply stA tT); rfl; rfl; exact hc))
  have hgs : (w2.alloc (.cells (ar 32 fun _ => 0) 36)).heap.size = w2.heap.size + 1 := by simp
  rw [hgs] at hc ⊢
  clear hgs
  have z3 := hid (show Blk ((((w2.alloc (.cells (ar 32 fun _ => 0) 36)).alloc (.cells (ar 32 fun _ => 0) 36)).setRow w2.heap.size (ar 32 s)).setRow (w2.heap.size + 1) (ar 32 fun j => s (32 + j))) (w.heap.size + 1) 36 (ar 32 fun _ => 0) from (((Z2.out.alloc _).alloc _).setRow_other (by omega) _).setRow_other (by omega) _)
  have y3 := hid (show Blk ((((w2.alloc (.cells (ar 32 fun _ => 0) 36)).alloc (.cells (ar 32 fun _ => 0) 36)).setRow w2.heap.size (ar 32 s)).setRow (w2.heap.size + 1) (ar 32 fun j => s (32 + j))) w2.heap.size 36 (ar 32 s) from (ha.setRow_same _).setRow_other (by omega) _)
  have x3 := hid (show Blk ((((w2.alloc (.cells (ar 32 fun _ => 0) 36)).alloc (.cells (ar 32 fun _ => 0) 36)).setRow w2.heap.size (ar 32 s)).setRow (w2.heap.size + 1) (ar 32 fun j => s (32 + j))) (w2.heap.size + 1) 36 (ar 32 fun j => s (32 + j)) from hc.setRow_same _)
  have b3 := hid (show Below w.heap.size w ((((w2.alloc (.cells (ar 32 fun _ => 0) 36)).alloc (.cells (ar 32 fun _ => 0) 36)).setRow w2.heap.size (ar 32 s)).setRow (w2.heap.size + 1) (ar 32 fun j => s (32 + j))) from below_setRow (below_setRow ((B2.out.alloc B2.out.size _).alloc (by have := B2.out.size; simp; omega) _) B2.out.size _) (by have := B2.out.size; omega) _)
  clear ha hc
  obtain ⟨g2, hg2⟩ : ∃ g2, g2 = w2.heap.size := ⟨_, rfl⟩
  rw [← hg2] at z3 y3 x3 b3 ⊢
  generalize World.setRow _ (g2 + 1) _ = w3 at z3 y3 x3 b3 ⊢
  clear hg2 Z2 B2 hl2
  have HG := hid (show half 0 s = s from rfl)
  have HG1 := hid (show half 1 s = fun j => s (32 + j) from rfl)
  rcases hm with hm | hm
  · rw [hm] at t1 HR
    rw [HG.out] at HR
    have HE := HR.out
    subst HE
    clear hm
    go_wp2_with (first | ((with_reducible apply ldA tT); rfl; exact y3.out) | ((with_reducible apply stA tT); rfl; rfl; exact z3.out))
    apply ret_ar tT Tryd.results39
    · rfl
    · rfl
    · exact z3.out.setRow_same _
    exact ⟨rfl, below_setRow b3.out (by omega) _⟩
  · rw [hm] at t1 HR
    rw [HG1.out] at HR
    have HE := HR.out
    subst HE
    clear hm
    go_wp2_with (first | ((with_reducible apply ldA tT); rfl; exact x3.out) | ((with_reducible apply stA tT); rfl; rfl; exact z3.out))
    apply ret_ar tT Tryd.results39
    · rfl
    · rfl
    · exact z3.out.setRow_same _
    exact ⟨rfl, below_setRow b3.out (by omega) _⟩
theorem vals_snoc {h leaf : Nat} {pre : List (Nd (2 ^ h))} {x : Nd (2 ^ h)} (hlt : pre.length < h) (e : vals (pre ++ [x]) = (pthL h leaf).take (pre ++ [x]).length) : vals pre = (pthL h leaf).take pre.length ∧ x.1 = pth h leaf pre.length := by
  rw [List.length_append, List.length_singleton, pthL_take hlt, vals, List.map_append, List.map_cons, List.map_nil] at e
  have := List.append_inj' e rfl
  exact ⟨this.1, by simpa using this.2⟩
theorem results_cellx {fn : Func} {p : Tmp} (h : fn.results = #[.cell p 4]) (tmps : Array Value) (w : World) (B : Nat) (b : Bool) (hp : tmps.getD p undef = .pointer (some ⟨B, 0, none⟩)) (hb : w.cell? ⟨B, 0, none⟩ = some (.bool b)) :
    (results fn tmps).run Tryd.prog w = .ok (.bool b) w := by
  have hp' : tmps[p]?.getD undef = .pointer (some ⟨B, 0, none⟩) := by simpa using hp
  have hv : (loadVar 4 ⟨B, 0, none⟩).run Tryd.prog w = .ok (.bool b) w := by
    simp [loadVar, go_sem, hb]
  simp [results, h, hp', hp, asAddr, hv]
/-- The blocks that Check makes ahead of all. -/
structure CkB (w w1 : World) (k f top : Nat → Nat) (A : Option Addr) (n cap : Nat) : Prop where
  k : Blk w1 w.heap.size 23 (ar 32 k)
  t : Blk w1 (w.heap.size + 1) 36 (ar 32 f)
  p : Blk w1 (w.heap.size + 2) 55 #[.slice A n cap]
  o : Blk w1 (w.heap.size + 3) 36 (ar 32 top)
  r : Blk w1 (w.heap.size + 4) 4 #[.bool false]
  b : Below w.heap.size w w1
theorem CkB.mk' (w : World) (k f top : Nat → Nat) (A : Option Addr) (n cap : Nat) : CkB w (((((w.alloc (.cells (ar 32 k) 23)).alloc (.cells (ar 32 f) 36)).alloc (.cells #[.slice A n cap] 55)).alloc (.cells (ar 32 top) 36)).alloc (.cells #[.bool false] 4)) k f top A n cap :=
  ⟨((((Blk.new _ _ _).alloc _).alloc _).alloc _).alloc _, (((Blk.top rfl (by simp)).alloc _).alloc _).alloc _, ((Blk.top rfl (by simp)).alloc _).alloc _, (Blk.top rfl (by simp)).alloc _, Blk.top rfl (by simp),
    (((((Below.refl _ _).alloc (Nat.le_refl _) _).alloc (by simp) _).alloc (by simp; omega) _).alloc (by simp; omega) _).alloc (by simp; omega) _⟩
set_option maxHeartbeats 800000 in
set_option maxRecDepth 100000 in
theorem check_no (k f top : Nat → Nat) (leaf : Int) (A : Option Addr) (n cap : Nat) (h : ¬ pathOk n leaf) (w : World) :
    Calls Tryd.prog 23 #[.agg (ar 32 k), .int .i64 leaf, .agg (ar 32 f), .slice A n cap, .agg (ar 32 top)] w fun e w' => e = .returned (.bool false) ∧ Below w.heap.size w w' := by
  have I := hid (fun w => isl_any (n : Nat) leaf w)
  rw [decide_eq_false h] at I
  have K := hid (CkB.mk' w k f top A n cap)
  clear h
  go_enter Tryd.func23, Tryd.ntmps23
  go_upto_region 1 with fail
  generalize World.alloc _ _ = w1 at K ⊢
  have cp := K.out.p.cell 0
  have cr := K.out.r.cell 0
  have fr := K.out.r.frozen 0
  go_wp2_with fail
  refine (I.out w1).mono ?_
  rintro e w' ⟨rfl, rfl⟩
  go_wp2_with fail
  refine bodyPost_ret (results_cellx rfl _ _ (w.heap.size + 4) false rfl ?_) rfl ?_
  · exact (K.out.r.setCell_same 0 _).cell 0
  exact ⟨rfl, K.out.b.setCell (by show w.heap.size ≤ w.heap.size + 4; omega) _⟩
end TrM
end Go.Proofs.YtdmnhpgafbcehaaDoor
set_option maxRecDepth 100000
namespace Go.Proofs.YtdmnhpgafbcehaaDoor
open Go.ChangeShapes Go.WideShapes Go.ChangeAt Go.RowKit Go.Shelf
attribute [local go_sem] Gives GivesE
attribute [local go_sem] Oper.semAt_some
namespace TrM
open TgP RwP StM
/-- What Check's loop may turn. -/
def Tc (b0 b1 b2 b3 B k : Nat) : Prop := k = b0 ∨ k = b1 ∨ k = b2 ∨ k = b3 ∨ B ≤ k
/-- Behind the nodes pre: the number below and its tag, and what is left to be looked at. -/
def ckI (bt bb bl : Nat) (k : Nat → Nat) (P : Nat → Nat → Nat) (top : Nat → Nat) (h leaf : Nat) (R : Bool) (pre : List (Nd (2 ^ h))) (W : World) : Prop :=
  ∃ b T, Blk W bt 36 (ar 32 T) ∧ Blk W bb 3 #[.int .i64 (b : Nat)] ∧ Blk W bl 3 #[.int .i64 (pre.length : Nat)] ∧ b ≤ 8192 ∧
    (vals pre = (pthL h leaf).take pre.length → b / 2 = pth h leaf pre.length ∧ chkF k P top (h - pre.length) pre.length b T = R)
set_option maxHeartbeats 3200000 in
set_option maxRecDepth 100000 in
theorem check_yes (k f top : Nat → Nat) (hk : ∀ i, k i < 256) (leaf : Nat) (A : Option Addr) (P : Nat → Nat → Nat) (hP : ∀ i j, P i j < 256) (h cap : Nat) (hp : pathOk (h : Nat) (leaf : Nat)) (S : Nat → Prop) (w : World) (hA : SliF 64 S w A h P cap) (hS : Salts w) :
    Calls Tryd.prog 23 #[.agg (ar 32 k), .int .i64 (leaf : Nat), .agg (ar 32 f), .slice A h cap, .agg (ar 32 top)] w fun e w' => e = .returned (.bool (chkF k P top h 0 (2 ^ h + leaf) f)) ∧ Below w.heap.size w w' := by
  obtain ⟨R, hR⟩ : ∃ R, R = chkF k P top h 0 (2 ^ h + leaf) f := ⟨_, rfl⟩
  have RE := hid hR
  rw [← hR]
  have hh : okH h := hp.1
  have h12 : h ≤ 12 := by have := hh.2; omega
  have h1 : 1 ≤ h := by have := hh.1; omega
  have hl : leaf < 2 ^ h := by have := hp.2.2; rw [Int.toNat_natCast] at this; omega
  have IS := hid (fun w => isl_any (h : Nat) (leaf : Nat) w)
  rw [decide_eq_true hp] at IS
  have HPW := hid (fun w => lvs_any h h12 w)
  have K := hid (CkB.mk' w k f top A h cap)
  have KK := hid hk
  have PP := hid hP
  have SA := hid hS
  have AA := hid hA.bound
  have LF := hid hl
  have HH := hid hh
  have PZ := hid (pth_zero h leaf)
  obtain ⟨n, hn⟩ : ∃ n, n = 2 ^ h := ⟨_, rfl⟩
  have NE := hid hn
  have hn4 : n ≤ 4096 := by rw [hn]; exact pow_le h12
  have hln : leaf < n := by rw [hn]; exact hl
  obtain ⟨Y, hY⟩ : ∃ Y, Y = n + leaf := ⟨_, rfl⟩
  have YE := hid (show Y = 2 ^ h + leaf by rw [hY, hn])
  have t1 : (n : Int) + (leaf : Int) = (Y : Int) := by omega
  have hY8 : Y ≤ 8192 := by omega
  rw [← hn] at HPW
  clear hR hp hk hP hS hA hl hn hY hh
  refine (callsIn_wide (n := 7)).1 ?_
  refine callsIn_of_wp_marks Tryd.func23 rfl trivial ?_ rfl
  simp only [Tryd.ntmps23, List.size_toArray, List.length_cons, List.length_nil, Nat.reduceAdd, Nat.reduceSub, Array.replicate_succ, Array.replicate_zero, List.push_toArray, List.append_toArray, List.nil_append, List.cons_append]
  gi_upto_region 1 with fail
  generalize World.alloc _ _ = w1 at K ⊢
  have cp := K.out.p.cell 0
  gi_wp2
  refine ⟨trivial, (callsIn_wide.2 (IS.out w1)).mono ?_⟩
  rintro e w' ⟨rfl, rfl⟩
  gi_wp2
  refine ⟨trivial, (callsIn_wide.2 (HPW.out w1)).mono ?_⟩
  rintro e w' ⟨rfl, rfl⟩
  gi_upto_region 5 with fail
  obtain ⟨bk, hbk⟩ : ∃ b, b = w.heap.size := ⟨_, rfl⟩
  obtain ⟨bt, hbt⟩ : ∃ b, b = w.heap.size + 1 := ⟨_, rfl⟩
  obtain ⟨bp, hbp⟩ : ∃ b, b = w.heap.size + 2 := ⟨_, rfl⟩
  obtain ⟨bo, hbo⟩ : ∃ b, b = w.heap.size + 3 := ⟨_, rfl⟩
  obtain ⟨br, hbr⟩ : ∃ b, b = w.heap.size + 4 := ⟨_, rfl⟩
  rw [show w.heap.size + 1 + 1 + 1 + 1 = br by omega, show w.heap.size + 1 + 1 + 1 = bo by omega, show w.heap.size + 1 + 1 = bp by omega, show w.heap.size + 1 = bt by omega]
  have hkk := hid (show Blk w1 bk 23 (ar 32 k) by rw [hbk]; exact K.out.k)
  have hkt := hid (show Blk w1 bt 36 (ar 32 f) by rw [hbt]; exact K.out.t)
  have hkp := hid (show Blk w1 bp 55 #[.slice A h cap] by rw [hbp]; exact K.out.p)
  have hko := hid (show Blk w1 bo 36 (ar 32 top) by rw [hbo]; exact K.out.o)
  have hkr := hid (show Blk w1 br 4 #[.bool false] by rw [hbr]; exact K.out.r)
  have B1w := hid K.out.b
  have w1l : br < w1.heap.size := hkr.out.lt
  have N1 : w.heap.size = bk := by omega
  have N2 : bt = bk + 1 := by omega
  have N3 : bp = bk + 2 := by omega
  have N4 : bo = bk + 3 := by omega
  have N5 : br = bk + 4 := by omega
  have NN := hid (And.intro N1 (And.intro N2 (And.intro N3 (And.intro N4 N5))))
  have I1 : w.heap.size ≤ bk := by omega
  have I1' : bk ≤ w.heap.size := by omega
  have I2 : bk < bt := by omega
  have I3 : bt < bp := by omega
  have I4 : bp < bo := by omega
  have I5 : bo < br := by omega
  clear K cp IS HPW
  have hi2 := hid (show Blk ((w1.alloc (.cells #[.int .i64 (Y : Nat)] 3)).alloc (.cells #[.int .i64 0] 3)) w1.heap.size 3 #[.int .i64 (Y : Nat)] from (Blk.new _ _ _).alloc _)
  have hj2 := hid (show Blk ((w1.alloc (.cells #[.int .i64 (Y : Nat)] 3)).alloc (.cells #[.int .i64 0] 3)) (w1.heap.size + 1) 3 #[.int .i64 ((0 : Nat) : Int)] from Blk.top rfl (by simp))
  have h2 := hid (show Below w1.heap.size w1 ((w1.alloc (.cells #[.int .i64 (Y : Nat)] 3)).alloc (.cells #[.int .i64 0] 3)) from ((Below.refl _ _).alloc (Nat.le_refl _) _).alloc (by simp) _)
  rw [N1] 
  clear hbk hbt hbp hbo hbr N1 N2 N3 N4 N5
  obtain ⟨bb, hbb⟩ : ∃ b, b = w1.heap.size := ⟨_, rfl⟩
  obtain ⟨bl, hbl⟩ : ∃ b, b = w1.heap.size + 1 := ⟨_, rfl⟩
  rw [← hbl] at hj2 ⊢
  rw [← hbb] at hi2 ⊢
  have hbr1 : br < bb := by omega
  have hbl1 : bl = bb + 1 := by omega
  have NB := hid hbl1
  have I6 : bb < bl := by omega
  generalize World.alloc (World.alloc w1 _) _ = w2 at hi2 hj2 h2 ⊢
  have hb2 : bl < w2.heap.size := hj2.out.lt
  have ci := hi2.out.cell 0
  clear hbb hbl hbl1 t1
  gi_wp2
  refine ⟨trivial, (callsIn_wide.2 (above_any Y w2)).mono ?_⟩
  rintro e w3 ⟨rfl, h3, k3⟩
  obtain ⟨bN, hbN⟩ : ∃ b, b = w2.heap.size := ⟨_, rfl⟩
  rw [← hbN] at k3 ⊢
  have H3 := hid h3
  have w12 := hid (h2.out.trans (h3.mono h2.out.size))
  have KN := hid (k3.cell 0)
  rw [YE.out] at KN
  have bNl := k3.lt
  have hbNb : bl < bN := by omega
  have gi3 := hid (hi2.out.below h3 hi2.out.lt)
  have gj3 := hid (hj2.out.below h3 hj2.out.lt)
  have gk3 := hid (hkk.out.below w12.out hkk.out.lt)
  have gt3 := hid (hkt.out.below w12.out hkt.out.lt)
  have gp3 := hid (hkp.out.below w12.out hkp.out.lt)
  have go3 := hid (hko.out.below w12.out hko.out.lt)
  have gr3 := hid (hkr.out.below w12.out hkr.out.lt)
  have B3 := hid (B1w.out.trans (w12.out.mono B1w.out.size))
  clear h3 k3 hbN H3 w12 h2 hi2 hj2 hkk hkt hkp hko hkr ci hb2
  have HB := hid (show ∀ W, Turn (Tc bt bb bl br w3.heap.size) w3 W → Below w.heap.size w W from fun W h => B3.out.trans (h.below (by have := B3.out.size; omega) fun k e => by unfold Tc at e; have := B3.out.size; have := NN.out; omega))
  gi_wp2
  refine wpIn_rangeFunc_ownG (α := Nd (2 ^ h)) rfl (by omega) (gf := 45) (lb := #[.pointer (some ⟨bN, 0, none⟩)]) rfl trivial (enters_of Tryd.func45 (by kernel_rfl) rfl)
    (encs := fun x => #[Value.int .i64 ((x.1 : Nat) : Int)]) (Kp := Turn (Tc bt bb bl br w3.heap.size)) (S := fun ys => vals ys = pthL h leaf) (Sp := fun pre => vals pre = (pthL h leaf).take pre.length ∧ pre.length ≤ h) (N := h) (w0 := w3)
    (fun l J Jx W hW _ _ hY h0 => above1_in l h leaf bN HH.out LF.out (Tc bt bb bl br w3.heap.size) w3 KN.out (by unfold Tc; omega) J Jx hY W ((Turn.of_below hW).mono fun k e => .inr (.inr (.inr (.inr e)))) h0)
    (fun h1 h2 => h1.trans h2 fun _ e => .inl e) (fun W l o o' hl _ _ _ => turn_putObj W l o' (.inr (.inr (.inr (.inr hl))))) (Below.refl _ _) (fun _ => rfl)
    (fun pre W => (ckI bt bb bl k P top h leaf R pre W ∧ Blk W br 4 #[.bool false]) ∧ Turn (Tc bt bb bl br w3.heap.size) w3 W)
    (fun c pre W => (c = .ret ∧ Blk W br 4 #[.bool false] ∧ (vals pre = (pthL h leaf).take pre.length → R = false)) ∧ Turn (Tc bt bb bl br w3.heap.size) w3 W)
    (ownFrom_turn fun s X Y ⟨⟨⟨b, T, h1, h2, h3, h4⟩, h6⟩, h5⟩ ht => ⟨⟨⟨b, T, h1.turn ht (not_walk h1), h2.turn ht (not_walk h2), h3.turn ht (not_walk h3), h4⟩, h6.turn ht (not_walk h6)⟩, h5.trans ht fun k e => .inl (.inr (.inr (.inr (.inr e.1))))⟩)
    (fun c => ownFrom_turn fun s X Y ⟨⟨h0, h1, h2⟩, h5⟩ ht => ⟨⟨h0, h1.turn ht (not_walk h1), h2⟩, h5.trans ht fun k e => .inl (.inr (.inr (.inr (.inr e.1))))⟩)
    ⟨⟨⟨Y, f, gt3.out, gi3.out, gj3.out, hY8, fun _ => ⟨by rw [YE.out]; exact PZ.out.symm, by rw [RE.out, YE.out]; rfl⟩⟩, gr3.out⟩, Turn.refl _ _⟩
    (fun x => { tmps := #[.agg (ar 32 k), .int .i64 (leaf : Nat), .agg (ar 32 f), .slice A h cap, .agg (ar 32 top), .pointer (some ⟨bk, 0, none⟩), undef, .pointer (some ⟨bt, 0, none⟩), .pointer (some ⟨bp, 0, none⟩), .pointer (some ⟨bo, 0, none⟩), .pointer (some ⟨br, 0, none⟩), .int .i64 (h : Nat), .pointer (some ⟨bb, 0, none⟩), .pointer (some ⟨bl, 0, none⟩), .int .i64 ((x.1 : Nat) : Int), .slice A h cap, .int .i64 (h : Nat), .int .i64 (h : Nat), .int .i64 (leaf : Nat), .bool true, .bool false, .int .i64 (h : Nat), .int .i64 (n : Nat), .int .i64 (leaf : Nat), .int .i64 (Y : Nat), .int .i64 (Y : Nat), .func (.func 45) #[] #[.pointer (some ⟨bN, 0, none⟩)], .int .i64 ((x.1 : Nat) : Int), undef, undef, undef, undef, undef, undef, undef, undef, undef, undef, undef, undef, undef, undef, undef, undef, undef, undef, undef, undef, undef], defers := [] }) ?assign ?body ?done ?stop
  case assign =>
    intro l x W K hK
    gi_wp2
    exact hK
  case body =>
    rintro l pre x W ⟨⟨⟨b, T, ht, hb, hlv, hb8, himp⟩, hrb⟩, hT⟩ hlt
    have hx2 : x.1 < n := Nat.lt_of_lt_of_le x.2.2 (Nat.le_of_eq NE.out.symm)
    have hb10 : b ≤ 100000 := by omega
    have BW := hid (HB.out W hT)
    have SN := hid (fun (e : vals (pre ++ [x]) = (pthL h leaf).take (pre ++ [x]).length) => vals_snoc (leaf := leaf) hlt e)
    obtain ⟨i, hi⟩ : ∃ i, i = pre.length := ⟨_, rfl⟩
    rw [← hi] at hlv hlt
    have AW := AA.out.turn (Turn.of_below BW.out) fun q hq _ => by omega
    obtain ⟨bA, o, rfl, _, hbL, hr⟩ := AW.some (lsF_get (F := P) hlt)
    have R1 := hid hr
    have IMP := hid himp
    have HT := hid hT
    have cp := hid ((gp3.out.turn hT (by unfold Tc; have := NN.out; omega)).cell 0)
    have kW := hid (gk3.out.turn hT (by unfold Tc; have := NN.out; omega))
    have cl := hid (hlv.cell 0)
    have cb := hid (hb.cell 0)
    have ht := hid ht
    have hbW := hid hb
    have hlW := hid hlv
    have bpl := World.block_lt_of_cell? _ _ cp.out
    have bll := hlv.lt
    have bbl := hb.lt
    have btl := ht.out.lt
    have bkl := kW.out.lt
    have hrW := hid hrb
    have brl := hrW.out.lt
    have HI := hid hi
    have HSUB := hid (show h - i = h - (i + 1) + 1 by omega)
    obtain ⟨b1, hb1⟩ : ∃ b1, b1 = !eqA 32 (half (b % 2) (P i)) T := ⟨_, rfl⟩
    have B1 := hid hb1.symm
    obtain ⟨xx, hxx⟩ : ∃ y, y = x.1 := ⟨_, rfl⟩
    rw [← hxx] at hx2 ⊢
    have XE := hid hxx
    clear hb hlv hrb himp hT hr hi AW hb1 hxx
    gi_wp2
    cases b1
    · skip
      refine wpi_region_tail (C := fun w' => Below W.heap.size W w') 8 (by kernel_rfl) (by kernel_rfl) (by rintro ⟨_, _, h⟩; exact h) (by kernel_rfl) (by kernel_rfl) (Below.refl _ _).drew ?_
      simp only [List.take_succ_cons, List.take_zero, List.drop_succ_cons, List.drop_zero]
      apply wpK_val
      · rfl
      · intro w' hw'
        have hcell := (hw'.cell (p := ⟨bp, 0, none⟩) bpl).trans cp.out
        go_simp
        first | exact rfl | exact ⟨rfl, hw'⟩
      simp only [Act.put, List.setIfInBounds_toArray, List.set_cons_succ, List.set_cons_zero]
      apply wpK_val
      · rfl
      · intro w' hw'
        have hcell := (hw'.cell (p := ⟨bl, 0, none⟩) bll).trans cl.out
        go_simp
        first | exact rfl | exact ⟨rfl, hw'⟩
      simp only [Act.put, List.setIfInBounds_toArray, List.set_cons_succ, List.set_cons_zero]
      apply wpK_val
      · rfl
      · intro w' hw'
        have h1 : i < h := hlt
        go_simp
        first | exact rfl | exact ⟨rfl, hw'⟩
      simp only [Act.put, List.setIfInBounds_toArray, List.set_cons_succ, List.set_cons_zero]
      apply kldA tS
      · rfl
      · rfl
      · exact fun w' hw' => fun q v hq => (hw'.cell (p := ⟨bA, o + i * 64 + q, none⟩) hbL).trans (R1.out q v hq)
      simp only [Act.put, List.setIfInBounds_toArray, List.set_cons_succ, List.set_cons_zero]
      apply wpK_val
      · rfl
      · intro w' hw'
        have hcell := (hw'.cell (p := ⟨bb, 0, none⟩) bbl).trans cb.out
        go_simp
        first | exact rfl | exact ⟨rfl, hw'⟩
      simp only [Act.put, List.setIfInBounds_toArray, List.set_cons_succ, List.set_cons_zero]
      apply wpK_val
      · rfl
      · intro w' hw'
        go_simp
        exact (tagat_any (P i) b hb10 w').mono fun e w5 h => ⟨h.1, hw'.trans (h.2.mono hw'.size)⟩
      simp only [Act.put, List.setIfInBounds_toArray, List.set_cons_succ, List.set_cons_zero]
      apply kldA tT
      · rfl
      · rfl
      · exact fun w' hw' => (ht.out.below hw' btl).head
      simp only [Act.put, List.setIfInBounds_toArray, List.set_cons_succ, List.set_cons_zero]
      apply kneU false uT eqgT
      · rfl
      · rfl
      · rfl
      · exact (by rw [B1.out])
      simp only [Act.put, List.setIfInBounds_toArray, List.set_cons_succ, List.set_cons_zero]
      refine wpK_nil fun w8 h8 => ?_
      have H8 := hid h8
      clear h8
      have g8 := hid (H8.out)
      have cp8 := hid ((H8.out.cell (p := ⟨bp, 0, none⟩) bpl).trans cp.out)
      have cl8 := hid ((H8.out.cell (p := ⟨bl, 0, none⟩) bll).trans cl.out)
      have hb8' := hid (hbW.out.below H8.out bbl)
      have ht8 := hid (ht.out.below H8.out btl)
      have hl8 := hid (hlW.out.below H8.out bll)
      have k8 := hid (kW.out.below H8.out bkl)
      have R8 := hid (show w8.rangeAt bA (o + i * 64) (arL 64 (P i)) from fun q v hq => (H8.out.cell (p := ⟨bA, o + i * 64 + q, none⟩) hbL).trans (R1.out q v hq))
      have hs8 := H8.out.size
      have hbL8 : bA < w8.heap.size := by omega
      have bpl8 : bp < w8.heap.size := by omega
      have bll8 : bl < w8.heap.size := by omega
      have bkl8 : bk < w8.heap.size := by omega
      obtain ⟨T3, hT3⟩ : ∃ F, F = ndT k xx (P i) := ⟨_, rfl⟩
      have NT := hid (fun (w' : World) (hw' : Below w8.heap.size w8 w') => node_any k KK.out (xx : Int) ⟨by omega, by omega⟩ (P i) (PP.out i) w' (SA.out.on ((BW.out.trans (H8.out.mono BW.out.size)).trans (hw'.mono (by have := BW.out.size; omega)))))
      rw [show HmM.tag (HmM.dl k) (BytM.rowB 78 [BytM.dig 8 (TgP.bits (xx : Int)), ls 64 (P i)]) = T3 by rw [hT3]; rfl] at NT
      have T3E := hid hT3
      clear hT3 cp cl cb R1 g8 kW
      go_wp2_with fail
      gi_wp2
      refine wpi_region_tail (C := fun w' => Below w8.heap.size w8 w') 8 (by kernel_rfl) (by kernel_rfl) (by rintro ⟨_, _, h⟩; exact h) (by kernel_rfl) (by kernel_rfl) (Below.refl _ _).drew ?_
      simp only [List.take_succ_cons, List.take_zero, List.drop_succ_cons, List.drop_zero]
      apply wpK_val
      · rfl
      · intro w' hw'
        go_simp
        first | exact rfl | exact ⟨rfl, hw'⟩
      simp only [Act.put, List.setIfInBounds_toArray, List.set_cons_succ, List.set_cons_zero]
      apply kldA tK
      · rfl
      · rfl
      · exact fun w' hw' => (k8.out.below hw' bkl8).head
      simp only [Act.put, List.setIfInBounds_toArray, List.set_cons_succ, List.set_cons_zero]
      apply wpK_val
      · rfl
      · intro w' hw'
        go_simp
        first | exact rfl | exact ⟨rfl, hw'⟩
      simp only [Act.put, List.setIfInBounds_toArray, List.set_cons_succ, List.set_cons_zero]
      apply wpK_val
      · rfl
      · intro w' hw'
        have hcell := (hw'.cell (p := ⟨bp, 0, none⟩) bpl8).trans cp8.out
        go_simp
        first | exact rfl | exact ⟨rfl, hw'⟩
      simp only [Act.put, List.setIfInBounds_toArray, List.set_cons_succ, List.set_cons_zero]
      apply wpK_val
      · rfl
      · intro w' hw'
        have hcell := (hw'.cell (p := ⟨bl, 0, none⟩) bll8).trans cl8.out
        go_simp
        first | exact rfl | exact ⟨rfl, hw'⟩
      simp only [Act.put, List.setIfInBounds_toArray, List.set_cons_succ, List.set_cons_zero]
      apply wpK_val
      · rfl
      · intro w' hw'
        have h1 : i < h := hlt
        go_simp
        first | exact rfl | exact ⟨rfl, hw'⟩
      simp only [Act.put, List.setIfInBounds_toArray, List.set_cons_succ, List.set_cons_zero]
      apply kldA tS
      · rfl
      · rfl
      · exact fun w' hw' => fun q v hq => (hw'.cell (p := ⟨bA, o + i * 64 + q, none⟩) hbL8).trans (R8.out q v hq)
      simp only [Act.put, List.setIfInBounds_toArray, List.set_cons_succ, List.set_cons_zero]
      apply wpK_val
      · rfl
      · intro w' hw'
        go_simp
        exact (NT.out w' hw').mono fun e w5 h => ⟨h.1, hw'.trans (h.2.mono hw'.size)⟩
      simp only [Act.put, List.setIfInBounds_toArray, List.set_cons_succ, List.set_cons_zero]
      refine wpK_nil fun w9 h9 => ?_
      have W9 := hid (show Below W.heap.size W w9 from H8.out.trans (h9.mono H8.out.size))
      have b9 := hb8'.out.below h9 hb8'.out.lt
      have t9 := hid (ht8.out.below h9 ht8.out.lt)
      have l9 := hid (hl8.out.below h9 hl8.out.lt)
      have c9 := b9.cell 0
      have f9 := b9.frozen 0
      have t10 := (t9.out.setCell_other (p := ⟨bb, 0, none⟩) (by show bb ≠ bt; have := NN.out; omega) (.int .i64 (xx : Nat)))
      clear h9 NT k8 cp8 cl8 R8 hb8' ht8 hl8
      go_wp2_with ((with_reducible apply stA tT); rfl; rfl; exact t10)
      generalize hw10 : World.setRow _ bt _ = w10
      have l10 : Blk w10 bl 3 #[.int .i64 (i : Nat)] := by rw [← hw10]; exact (l9.out.setCell_other (p := ⟨bb, 0, none⟩) (by show bb ≠ bl; have := NB.out; omega) _).setRow_other (by have := NN.out; omega) _
      have b10 : Blk w10 bb 3 #[.int .i64 (xx : Nat)] := by rw [← hw10]; exact ((b9.setCell_same 0 (.int .i64 (xx : Nat)))).setRow_other (by have := NN.out; omega) _
      have t11 : Blk w10 bt 36 (ar 32 T3) := by rw [← hw10]; exact t10.setRow_same _
      have TT : Turn (fun q => q = bt ∨ q = bb ∨ q = bl) W w10 := by
        rw [← hw10]
        exact ((Turn.of_new (S := fun q => q = bt ∨ q = bb ∨ q = bl) W9.out).trans (Turn.setCell (S := fun q => q = bt ∨ q = bb ∨ q = bl) w9 ⟨bb, 0, none⟩ _ (.inr (.inl rfl))) fun _ e => .inl e).trans (Turn.setRow (S := fun q => q = bt ∨ q = bb ∨ q = bl) _ _ _ (.inl rfl)) fun _ e => .inl e
      have L10 := hid l10
      have B10 := hid b10
      have T11 := hid t11
      have TT10 := hid TT
      have c10 := l10.cell 0
      have f10 := l10.frozen 0
      clear hw10 l10 b10 t11 TT b9 c9 f9 t10 t9 l9
      gi_wp2
      have TF : Turn (fun q => q = bt ∨ q = bb ∨ q = bl) W (w10.setCell ⟨bl, 0, none⟩ (.int .i64 ((i : Int) + 1))) := TT10.out.trans (Turn.setCell (S := fun q => q = bt ∨ q = bb ∨ q = bl) w10 ⟨bl, 0, none⟩ _ (.inr (.inr rfl))) fun _ e => .inl e
      have TG : Turn (Tc bt bb bl br w3.heap.size) W (w10.setCell ⟨bl, 0, none⟩ (.int .i64 ((i : Int) + 1))) := TF.mono fun q e => e.elim (fun e => .inl e) fun e => e.elim (fun e => .inr (.inl e)) fun e => .inr (.inr (.inl e))
      refine ⟨keepsFrom_turn TF ?_, TG, ⟨⟨xx, T3, T11.out.setCell_other (p := ⟨bl, 0, none⟩) (by show bl ≠ bt; omega) _, B10.out.setCell_other (p := ⟨bl, 0, none⟩) (by show bl ≠ bb; omega) _, ?_, by omega, ?_⟩, ?_⟩, HT.out.trans TG fun _ e => .inl e⟩
      · rintro q (rfl | rfl | rfl)
        · exact blk_cells ht.out
        · exact blk_cells hbW.out
        · exact blk_cells hlW.out
      · rw [List.length_append, List.length_singleton, ← HI.out]
        exact L10.out.setCell_same 0 _
      · intro e
        have h1 := SN.out e
        have h2 := IMP.out h1.1
        rw [← HI.out] at h2
        rw [List.length_append, List.length_singleton, ← HI.out]
        have h4 := h2.2
        rw [HSUB.out] at h4
        unfold chkF at h4
        have h3 : eqA 32 (half (b % 2) (P i)) T = true := by simpa using B1.out
        have h5 : b / 2 = xx := by rw [h2.1, XE.out, h1.2, HI.out]
        rw [h3, Bool.true_and, h5] at h4
        refine ⟨?_, by rw [T3E.out]; exact h4⟩
        rw [pth_succ, ← h2.1, h5]
      · exact hrW.out.turn TF (by rintro (e | e | e) <;> omega)
    · skip
      refine wpi_region_tail (C := fun w' => Below W.heap.size W w') 8 (by kernel_rfl) (by kernel_rfl) (by rintro ⟨_, _, h⟩; exact h) (by kernel_rfl) (by kernel_rfl) (Below.refl _ _).drew ?_
      simp only [List.take_succ_cons, List.take_zero, List.drop_succ_cons, List.drop_zero]
      apply wpK_val
      · rfl
      · intro w' hw'
        have hcell := (hw'.cell (p := ⟨bp, 0, none⟩) bpl).trans cp.out
        go_simp
        first | exact rfl | exact ⟨rfl, hw'⟩
      simp only [Act.put, List.setIfInBounds_toArray, List.set_cons_succ, List.set_cons_zero]
      apply wpK_val
      · rfl
      · intro w' hw'
        have hcell := (hw'.cell (p := ⟨bl, 0, none⟩) bll).trans cl.out
        go_simp
        first | exact rfl | exact ⟨rfl, hw'⟩
      simp only [Act.put, List.setIfInBounds_toArray, List.set_cons_succ, List.set_cons_zero]
      apply wpK_val
      · rfl
      · intro w' hw'
        have h1 : i < h := hlt
        go_simp
        first | exact rfl | exact ⟨rfl, hw'⟩
      simp only [Act.put, List.setIfInBounds_toArray, List.set_cons_succ, List.set_cons_zero]
      apply kldA tS
      · rfl
      · rfl
      · exact fun w' hw' => fun q v hq => (hw'.cell (p := ⟨bA, o + i * 64 + q, none⟩) hbL).trans (R1.out q v hq)
      simp only [Act.put, List.setIfInBounds_toArray, List.set_cons_succ, List.set_cons_zero]
      apply wpK_val
      · rfl
      · intro w' hw'
        have hcell := (hw'.cell (p := ⟨bb, 0, none⟩) bbl).trans cb.out
        go_simp
        first | exact rfl | exact ⟨rfl, hw'⟩
      simp only [Act.put, List.setIfInBounds_toArray, List.set_cons_succ, List.set_cons_zero]
      apply wpK_val
      · rfl
      · intro w' hw'
        go_simp
        exact (tagat_any (P i) b hb10 w').mono fun e w5 h => ⟨h.1, hw'.trans (h.2.mono hw'.size)⟩
      simp only [Act.put, List.setIfInBounds_toArray, List.set_cons_succ, List.set_cons_zero]
      apply kldA tT
      · rfl
      · rfl
      · exact fun w' hw' => (ht.out.below hw' btl).head
      simp only [Act.put, List.setIfInBounds_toArray, List.set_cons_succ, List.set_cons_zero]
      apply kneU true uT eqgT
      · rfl
      · rfl
      · rfl
      · exact (by rw [B1.out])
      simp only [Act.put, List.setIfInBounds_toArray, List.set_cons_succ, List.set_cons_zero]
      refine wpK_nil fun w8 h8 => ?_
      have H8 := hid h8
      clear h8
      have r8 := hrW.out.below H8.out brl
      have c8 := r8.cell 0
      have f8 := r8.frozen 0
      go_wp2_with fail
      gi_wp2
      have TF : Turn (fun q => q = br) W (w8.setCell ⟨br, 0, none⟩ (.bool false)) := (Turn.of_new (S := fun q => q = br) H8.out).trans (Turn.setCell (S := fun q => q = br) w8 ⟨br, 0, none⟩ _ rfl) fun _ e => .inl e
      refine ⟨keepsFrom_turn TF (by rintro q rfl; exact blk_cells hrW.out), ⟨rfl, r8.setCell_same 0 _, ?_⟩, HT.out.trans TF fun q e => .inl (.inr (.inr (.inr (.inl e))))⟩
      intro e
      have h1 := SN.out e
      have h2 := (IMP.out h1.1).2
      rw [← HI.out, HSUB.out] at h2
      unfold chkF at h2
      have h3 : eqA 32 (half (b % 2) (P i)) T = false := by simpa using B1.out
      rw [h3, Bool.false_and] at h2
      exact h2.symm
  case done =>
    rintro D ys W hD hys ⟨⟨⟨b, T, ht, hb, hlv, hb8, himp⟩, hrb⟩, hT⟩ hK
    have hlen : ys.length = h := by
      have := congrArg List.length hys
      rwa [List.length_map, pthL_length] at this
    have CE := hid (show eqA 32 T top = R by
      have := (himp (by rw [hys, hlen, List.take_of_length_le (by rw [pthL_length]; omega)])).2
      rw [hlen, Nat.sub_self] at this
      exact this)
    have tW := hid ht
    have oW := hid (go3.out.turn hT (by unfold Tc; omega))
    have rW := hid hrb
    have HT := hid hT
    have c1 := hrb.cell 0
    have f1 := hrb.frozen 0
    have HK := hid hK
    clear ht hb hlv himp hrb hK hys hlen hT hb8
    gi_upto_region 11 with fail
    refine wpIn_wide.2 ?_
    go_wp2_with (first | ((with_reducible apply ldA tT); rfl; exact tW.out) | ((with_reducible apply ldA tT); rfl; exact oW.out) | ((with_reducible apply weqAq _ uT eqgT); rfl; rfl; rfl; exact CE.out))
    gi_wp2
    have HK2 : (W.setCell ⟨br, 0, none⟩ (.bool R)).heap[D]? = some (.deferred (some [])) := (Below.heap_setCell W ⟨br, 0, none⟩ (.bool R) D (by show D ≠ br; omega)).trans HK.out
    have hr2 : Boxed (W.setCell ⟨br, 0, none⟩ (.bool R)) br 4 (.bool R) := (show Boxed W br 4 (.bool false) from rW.out).set _
    have hT3 := HT.out.trans (Turn.setCell (S := Tc bt bb bl br w3.heap.size) W ⟨br, 0, none⟩ (.bool R) (.inr (.inr (.inr (.inl rfl))))) fun _ e => .inl e
    refine ⟨by simp, .inl ⟨_, _, rfl, run_takeDeferred HK2, ?_⟩⟩
    refine ⟨_, results_cellx rfl _ _ br R rfl (hr2.kept (grownBy_putObj' _ D _) (by simp; omega)).cell, rfl, (HB.out _ hT3).trans (belowK_b (w := w) (Nat.le_refl _) _ D _ _ (by omega) HK2 rfl rfl)⟩
  case stop =>
    rintro D c pre W hD hSp ⟨⟨rfl, hbr, himp⟩, hT⟩ hK
    have hR0 := himp hSp.1
    gi_wp2
    refine ⟨by simp, .inl ⟨_, _, rfl, run_takeDeferred hK, ?_⟩⟩
    refine ⟨_, results_cellx rfl _ _ br false rfl ((show Boxed W br _ _ from hbr).kept (grownBy_putObj' _ D _) (by simp; omega)).cell, by rw [hR0], (HB.out W hT).trans (belowK_b (w := w) (Nat.le_refl _) W D _ _ (by omega) hK rfl rfl)⟩
end TrM
end Go.Proofs.YtdmnhpgafbcehaaDoor
set_option maxRecDepth 100000
namespace Go.Proofs.YtdmnhpgafbcehaaDoor
open Go.RowKit
namespace TrM
open TgP
theorem tgF_off {k : Nat → Nat} {n c : Nat} {L L' : Nat → Nat → Nat} (hL : ∀ i, i ≠ c → L i = L' i) : ∀ (f j : Nat), (∀ i, (n + c) / 2 ^ i ≠ j) → n ≤ 2 ^ f * j → tgF k n L f j = tgF k n L' f j
  | 0, j, h, hn => by
    rw [Nat.pow_zero, Nat.one_mul] at hn
    have h0 := h 0
    rw [Nat.pow_zero, Nat.div_one] at h0
    exact hL _ (by omega)
  | f + 1, j, h, hn => by
    unfold tgF
    by_cases e : n ≤ j
    · rw [if_pos e, if_pos e]
      have h0 := h 0
      rw [Nat.pow_zero, Nat.div_one] at h0
      exact hL _ (by omega)
    · rw [if_neg e, if_neg e]
      have e1 : 2 ^ (f + 1) * j = 2 ^ f * (2 * j) := by rw [Nat.pow_succ, Nat.mul_assoc]
      have h5 : n ≤ 2 ^ f * (2 * j) := by rw [← e1]; exact hn
      have h6 : n ≤ 2 ^ f * (2 * j + 1) := Nat.le_trans h5 (Nat.mul_le_mul_left _ (by omega))
      have hs : ∀ i, (n + c) / 2 ^ (i + 1) = (n + c) / 2 ^ i / 2 := fun i => by rw [Nat.pow_succ, Nat.div_div_eq_div_mul]
      rw [tgF_off hL f (2 * j) (fun i e2 => h (i + 1) (by rw [hs, e2]; omega)) h5, tgF_off hL f (2 * j + 1) (fun i e2 => h (i + 1) (by rw [hs, e2]; omega)) h6]
end TrM
end Go.Proofs.YtdmnhpgafbcehaaDoor
set_option maxRecDepth 100000
namespace Go.Proofs.YtdmnhpgafbcehaaDoor
open Go.RowKit
namespace TrM
open TgP RwP
/-- The numbers on a leaf's way to the top, its own first. -/
def bn (n leaf i : Nat) : Nat := (n + leaf) / 2 ^ i
theorem bn_zero (n leaf : Nat) : bn n leaf 0 = n + leaf := by unfold bn; rw [Nat.pow_zero, Nat.div_one]
theorem bn_succ (n leaf i : Nat) : bn n leaf (i + 1) = bn n leaf i / 2 := by unfold bn; rw [Nat.pow_succ, Nat.div_div_eq_div_mul]
theorem bn_le {n leaf a b : Nat} (h : a ≤ b) : bn n leaf b ≤ bn n leaf a := by
  induction b with
  | zero => have : a = 0 := by omega
            rw [this]; exact Nat.le_refl _
  | succ b ih =>
    by_cases e : a = b + 1
    · rw [e]; exact Nat.le_refl _
    · have := ih (by omega)
      rw [bn_succ]
      omega
theorem bn_lt {n leaf a b : Nat} (h : a < b) (hp : 1 ≤ bn n leaf a) : bn n leaf b < bn n leaf a := by
  have h1 : bn n leaf b ≤ bn n leaf (a + 1) := bn_le h
  rw [bn_succ] at h1
  omega
theorem bn_inj {n leaf a b : Nat} (h : bn n leaf a = bn n leaf b) (hp : 1 ≤ bn n leaf a) : a = b := by
  rcases Nat.lt_trichotomy a b with e | e | e
  · have := bn_lt e hp; omega
  · exact e
  · have := bn_lt (n := n) (leaf := leaf) e (by omega); omega
section
variable {t : Tr} {leaf : Nat} {f : Nat → Nat} (hl : leaf < t.n)
include hl
theorem bn_pos {i : Nat} (hi : i ≤ t.h) : 1 ≤ bn t.n leaf i := by
  have _ := hl
  cases i with
  | zero => rw [bn_zero]; have := t.n_pos; omega
  | succ i => exact pth_pos (h := t.h) (leaf := leaf) hi
theorem bn_end {i : Nat} (hi : t.h < i) : bn t.n leaf i = 0 := by
  cases i with
  | zero => omega
  | succ i => exact pth_end (h := t.h) (leaf := leaf) hl i (by omega)
theorem bn_node (i : Nat) : bn t.n leaf (i + 1) < t.n := pth_lt (h := t.h) (leaf := leaf) (i := i) hl
theorem set_off {q : Nat} (h1 : 1 ≤ q) (ho : ∀ i, bn t.n leaf i ≠ q) : (t.set leaf f).tg q = t.tg q := by
  have _ := hl
  unfold Tr.tg
  refine (tgF_off (c := leaf) (fun i hi => ?_) t.h q (fun i => ho i) ?_)
  · show (if i = leaf then f else t.L i) = t.L i
    rw [if_neg hi]
  · show 2 ^ t.h ≤ 2 ^ t.h * q
    exact Nat.le_mul_of_pos_right _ (by omega)
theorem set_sib {i q : Nat} (hi : i < t.h) (hq : q / 2 = bn t.n leaf (i + 1)) (hne : q ≠ bn t.n leaf i) : (t.set leaf f).tg q = t.tg q := by
  have hp := bn_pos hl (show i + 1 ≤ t.h by omega)
  refine set_off hl (by omega) fun m e => hne ?_
  have h2 : bn t.n leaf (m + 1) = bn t.n leaf (i + 1) := by rw [bn_succ, e, hq]
  have h3 := bn_inj h2 (by omega)
  rw [← e, show m = i by omega]
theorem set_leaf : (t.set leaf f).tg (t.n + leaf) = f := by
  have _ := hl
  rw [Tr.tg_leaf (by show t.n ≤ _; omega)]
  show (if t.n + leaf - t.n = leaf then f else t.L (t.n + leaf - t.n)) = f
  rw [if_pos (by omega)]
theorem set_node {i : Nat} {A B : Nat → Nat} (hi : i < t.h) (hA : ∀ j, j < 32 → A j = (t.set leaf f).tg (2 * bn t.n leaf (i + 1)) j) (hB : ∀ j, j < 32 → B j = (t.set leaf f).tg (2 * bn t.n leaf (i + 1) + 1) j) :
    ndT t.k (bn t.n leaf (i + 1)) (joined A B) = (t.set leaf f).tg (bn t.n leaf (i + 1)) := by
  rw [Tr.tg_node (t := t.set leaf f) (bn_pos hl (show i + 1 ≤ t.h by omega)) (bn_node hl i)]
  exact ndT_ext (joined_ext hA hB)
/-- The tags while a leaf is set: those of the first i numbers are new. -/
def stW (t u : Tr) (leaf i q : Nat) : Nat → Nat := if q = 0 then fun _ => 0 else if (List.range i).any (fun m => bn t.n leaf m == q) then u.tg q else t.tg q
omit hl in
theorem stW_zero (t u : Tr) (leaf q : Nat) : stW t u leaf 0 q = tagsFrom t 1 q := by
  unfold stW tagsFrom
  by_cases e : q = 0
  · rw [if_pos e, if_neg (by omega)]
  · rw [if_neg e, if_neg (by simp), if_pos (by omega)]
omit hl in
theorem stW_on {t u : Tr} {leaf i q m : Nat} (hm : m < i) (e : bn t.n leaf m = q) (h1 : 1 ≤ q) : stW t u leaf i q = u.tg q := by
  unfold stW
  rw [if_neg (by omega), if_pos]
  exact List.any_eq_true.2 ⟨m, List.mem_range.2 hm, by rw [beq_iff_eq]; exact e⟩
omit hl in
theorem stW_not {t u : Tr} {leaf i q : Nat} (ho : ∀ m, m < i → bn t.n leaf m ≠ q) (h1 : 1 ≤ q) : stW t u leaf i q = t.tg q := by
  unfold stW
  rw [if_neg (by omega), if_neg]
  intro h
  obtain ⟨m, hm, e⟩ := List.any_eq_true.1 h
  rw [beq_iff_eq] at e
  exact ho m (List.mem_range.1 hm) e
omit hl in
theorem stW_succ {t u : Tr} {leaf i q : Nat} (hp : 1 ≤ bn t.n leaf i) : stW t u leaf (i + 1) q = if q = bn t.n leaf i then u.tg q else stW t u leaf i q := by
  by_cases e : q = bn t.n leaf i
  · rw [if_pos e]
    exact stW_on (Nat.lt_succ_self i) e.symm (by omega)
  · rw [if_neg e]
    unfold stW
    by_cases e0 : q = 0
    · rw [if_pos e0, if_pos e0]
    · rw [if_neg e0, if_neg e0, List.range_succ, List.any_append]
      have : (bn t.n leaf i == q) = false := by rw [beq_eq_false_iff_ne]; exact fun h => e h.symm
      simp [this]
theorem stW_at {u : Tr} {i : Nat} (hi : i ≤ t.h) : stW t u leaf i (bn t.n leaf i) = t.tg (bn t.n leaf i) := by
  have hp := bn_pos hl hi
  exact stW_not (fun m hm e => by have := bn_inj e (by omega); omega) hp
theorem stW_kid {i q : Nat} (hi : i < t.h) (hq : q / 2 = bn t.n leaf (i + 1)) : stW t (t.set leaf f) leaf (i + 1) q = (t.set leaf f).tg q := by
  have hp := bn_pos hl (show i + 1 ≤ t.h by omega)
  have hp0 := bn_pos hl (show i ≤ t.h by omega)
  rw [stW_succ hp0]
  by_cases e : q = bn t.n leaf i
  · rw [if_pos e]
  · rw [if_neg e, set_sib hl hi hq e]
    refine stW_not (fun m hm e2 => ?_) (by omega)
    have h2 : bn t.n leaf (m + 1) = bn t.n leaf (i + 1) := by rw [bn_succ, e2, hq]
    have := bn_inj h2 (by omega)
    omega
theorem stW_all (q : Nat) : stW t (t.set leaf f) leaf (t.h + 1) q = tagsFrom (t.set leaf f) 1 q := by
  by_cases e : q = 0
  · unfold stW tagsFrom
    rw [if_pos e, if_neg (by omega)]
  · have hR : tagsFrom (t.set leaf f) 1 q = (t.set leaf f).tg q := by unfold tagsFrom; rw [if_pos (by omega)]
    rw [hR]
    by_cases h : ∃ m, m < t.h + 1 ∧ bn t.n leaf m = q
    · obtain ⟨m, hm, hq⟩ := h
      exact stW_on hm hq (by omega)
    · rw [stW_not (fun m hm e2 => h ⟨m, hm, e2⟩) (by omega), set_off hl (by omega)]
      intro i e2
      by_cases hi : i < t.h + 1
      · exact h ⟨i, hi, e2⟩
      · have := bn_end hl (show t.h < i by omega)
        omega
/-- From where a tag stays, all above stay. -/
theorem stays {i : Nat} (hs : eqA 32 (t.tg (bn t.n leaf i)) ((t.set leaf f).tg (bn t.n leaf i)) = true) : ∀ m, i ≤ m → m ≤ t.h → ∀ j, j < 32 → t.tg (bn t.n leaf m) j = (t.set leaf f).tg (bn t.n leaf m) j := by
  intro m
  induction m with
  | zero => intro hm _; have : i = 0 := by omega
            subst this; exact (eqA_iff).1 hs
  | succ m ih =>
    intro hm hmh
    by_cases e : i = m + 1
    · subst e; exact (eqA_iff).1 hs
    · have h1 := ih (by omega) (by omega)
      have hk : ∀ q, q / 2 = bn t.n leaf (m + 1) → ∀ j, j < 32 → t.tg q j = (t.set leaf f).tg q j := fun q hq j hj => by
        by_cases e2 : q = bn t.n leaf m
        · rw [e2]; exact h1 j hj
        · rw [set_sib hl (by omega) hq e2]
      have h2 := set_node hl (f := f) (show m < t.h by omega) (A := t.tg (2 * bn t.n leaf (m + 1))) (B := t.tg (2 * bn t.n leaf (m + 1) + 1)) (hk _ (by omega)) (hk _ (by omega))
      rw [← h2, Tr.tg_node (bn_pos hl hmh) (bn_node hl m)]
      exact fun _ _ => rfl
theorem stW_same {i : Nat} (hs : eqA 32 (t.tg (bn t.n leaf i)) ((t.set leaf f).tg (bn t.n leaf i)) = true) (q j : Nat) (hj : j < 32) : stW t (t.set leaf f) leaf i q j = tagsFrom (t.set leaf f) 1 q j := by
  by_cases e : q = 0
  · unfold stW tagsFrom
    rw [if_pos e, if_neg (by omega)]
  · have hR : tagsFrom (t.set leaf f) 1 q = (t.set leaf f).tg q := by unfold tagsFrom; rw [if_pos (by omega)]
    rw [hR]
    by_cases h : ∃ m, m < i ∧ bn t.n leaf m = q
    · obtain ⟨m, hm, hq⟩ := h
      rw [stW_on hm hq (by omega)]
    · rw [stW_not (fun m hm e2 => h ⟨m, hm, e2⟩) (by omega)]
      by_cases h2 : ∃ m, bn t.n leaf m = q
      · obtain ⟨m, hq⟩ := h2
        have hmi : i ≤ m := by
          rcases Nat.lt_or_ge m i with e3 | e3
          · exact absurd ⟨m, e3, hq⟩ h
          · exact e3
        have hmh : m ≤ t.h := by
          rcases Nat.lt_or_ge t.h m with e3 | e3
          · have := bn_end hl e3; omega
          · exact e3
        rw [← hq]
        exact stays hl hs m hmi hmh j hj
      · rw [set_off hl (by omega) fun m e3 => h2 ⟨m, e3⟩]
theorem oth_kid {i : Nat} (hi : i < t.h) : oth t (t.set leaf f) (bn t.n leaf (i + 1)) = !eqA 32 (t.tg (bn t.n leaf i)) ((t.set leaf f).tg (bn t.n leaf i)) := by
  unfold oth
  have hs := bn_succ t.n leaf i
  rcases (show bn t.n leaf i % 2 = 0 ∨ bn t.n leaf i % 2 = 1 by omega) with hm | hm
  · rw [show 2 * bn t.n leaf (i + 1) = bn t.n leaf i by omega, set_sib hl hi (q := bn t.n leaf i + 1) (by omega) (by omega), eqA_refl]
    simp
  · rw [show 2 * bn t.n leaf (i + 1) + 1 = bn t.n leaf i by omega, set_sib hl hi (q := 2 * bn t.n leaf (i + 1)) (by omega) (by omega), eqA_refl]
    simp
theorem chg_part {i : Nat} (hi : i ≤ t.h) (ha : ∀ m, m < i → eqA 32 (t.tg (bn t.n leaf m)) ((t.set leaf f).tg (bn t.n leaf m)) = false) (hs : i < t.h → eqA 32 (t.tg (bn t.n leaf i)) ((t.set leaf f).tg (bn t.n leaf i)) = true) : chg t (t.set leaf f) leaf = (pthL t.h leaf).take i := by
  unfold chg
  have h1 : ((pthL t.h leaf).take i).filter (oth t (t.set leaf f)) = (pthL t.h leaf).take i := List.filter_eq_self.2 fun q hq => by
    obtain ⟨m, hm, e⟩ := List.mem_iff_getElem.1 hq
    have hm2 : m < i := by rw [List.length_take] at hm; omega
    have e2 : q = bn t.n leaf (m + 1) := by
      rw [← e, List.getElem_take]
      simp [pthL, bn, pth, Tr.n]
    rw [e2, oth_kid hl (by omega), ha m hm2]
    rfl
  have h2 : ((pthL t.h leaf).drop i).filter (oth t (t.set leaf f)) = [] := List.filter_eq_nil_iff.2 fun q hq => by
    obtain ⟨m, hm, e⟩ := List.mem_iff_getElem.1 hq
    have hm2 : i + m < t.h := by rw [List.length_drop, pthL_length] at hm; omega
    have e2 : q = bn t.n leaf (i + m + 1) := by
      rw [← e, List.getElem_drop]
      simp [pthL, bn, pth, Tr.n]
    rw [e2, oth_kid hl hm2, eqA_yes (stays hl (hs (by omega)) (i + m) (by omega) (by omega))]
    simp
  conv => lhs; rw [← List.take_append_drop i (pthL t.h leaf)]
  rw [List.filter_append, h1, h2, List.append_nil]
end
end TrM
end Go.Proofs.YtdmnhpgafbcehaaDoor
set_option maxRecDepth 100000
namespace Go.Proofs.YtdmnhpgafbcehaaDoor
open Go.ChangeShapes Go.WideShapes Go.ChangeAt Go.RowKit Go.Shelf
attribute [local go_sem] Gives GivesE
attribute [local go_sem] Oper.semAt_some
namespace TrM
open TgP RwP StM
theorem results_cell2 {fn : Func} {p q : Tmp} (h : fn.results = #[.cell p 39, .cell q 30]) (tmps : Array Value) (w : World) (B C : Nat) (A : Option Addr) (m c : Nat) (E : Int) (hp : tmps.getD p undef = .pointer (some ⟨B, 0, none⟩)) (hq : tmps.getD q undef = .pointer (some ⟨C, 0, none⟩))
    (hb : w.cell? ⟨B, 0, none⟩ = some (.slice A m c)) (hc : w.cell? ⟨C, 0, none⟩ = some (.int .i64 E)) :
    (results fn tmps).run Tryd.prog w = .ok (.tuple #[.slice A m c, .int .i64 E]) w := by
  have hp' : tmps[p]?.getD undef = .pointer (some ⟨B, 0, none⟩) := by simpa using hp
  have hq' : tmps[q]?.getD undef = .pointer (some ⟨C, 0, none⟩) := by simpa using hq
  have hv : (loadVar 39 ⟨B, 0, none⟩).run Tryd.prog w = .ok (.slice A m c) w := by
    simp [loadVar, go_sem, hb]
  have hu : (loadVar 30 ⟨C, 0, none⟩).run Tryd.prog w = .ok (.int .i64 E) w := by
    simp [loadVar, go_sem, hc]
  simp [results, h, hp', hq', asAddr, hv, hu]
/-- The blocks that Set makes ahead of all. -/
structure SkB (w w1 : World) (v : Value) (f : Nat → Nat) : Prop where
  t : Blk w1 w.heap.size 29 #[v]
  f : Blk w1 (w.heap.size + 1) 36 (ar 32 f)
  l : Blk w1 (w.heap.size + 2) 39 #[.slice none 0 0]
  e : Blk w1 (w.heap.size + 3) 30 #[.int .i64 0]
  b : Below w.heap.size w w1
theorem SkB.mk' (w : World) (v : Value) (f : Nat → Nat) : SkB w ((((w.alloc (.cells #[v] 29)).alloc (.cells (ar 32 f) 36)).alloc (.cells #[.slice none 0 0] 39)).alloc (.cells #[.int .i64 0] 30)) v f :=
  ⟨(((Blk.new _ _ _).alloc _).alloc _).alloc _, ((Blk.top rfl (by simp)).alloc _).alloc _, (Blk.top rfl (by simp)).alloc _, Blk.top rfl (by simp),
    ((((Below.refl _ _).alloc (Nat.le_refl _) _).alloc (by simp) _).alloc (by simp; omega) _).alloc (by simp; omega) _⟩
set_option maxHeartbeats 800000 in
set_option maxRecDepth 100000 in
theorem set_bad {v : Value} {n : Nat} {w : World} (hv : ∃ p, v = .pointer p) (H : Lv v n w) (j E : Int) (f : Nat → Nat) (hE : findV n j 0 (n : Nat) = E) (hE0 : E ≠ 0) :
    Calls Tryd.prog 12 #[v, .int .i64 j, .agg (ar 32 f)] w fun e w' => e = .returned (.tuple #[.slice none 0 0, .int .i64 E]) ∧ Below w.heap.size w w' := by
  obtain ⟨p, rfl⟩ := hv
  have hE2 : E = 1 ∨ E = 2 := by rw [← hE]; exact findV_bad (by rw [hE]; exact hE0)
  have HE := hid hE
  clear hE hE0
  have K := hid (SkB.mk' w (.pointer p) f)
  have L := hid (H.on K.out.b)
  clear H
  rcases hE2 with rfl | rfl
  all_goals
    go_enter Tryd.func12, Tryd.ntmps12
    go_upto_region 1 with fail
    generalize World.alloc _ _ = w1 at K L ⊢
    have cz := hid (K.out.t.cell 0)
    have hzl := K.out.t.lt
    refine wp_region_tail (C := fun w' => Below w1.heap.size w1 w') 5 (by kernel_rfl) (by kernel_rfl) (by kernel_rfl) (Below.refl _ _).drew ?_
    simp only [List.take_succ_cons, List.take_zero, List.drop_succ_cons, List.drop_zero]
    apply wpK_val
    · rfl
    · intro w' hw'
      have hcell := (hw'.cell (p := ⟨w.heap.size, 0, none⟩) hzl).trans cz.out
      go_simp
      first | exact rfl | exact ⟨rfl, hw'⟩
    simp only [Act.put, List.setIfInBounds_toArray, List.set_cons_succ, List.set_cons_zero]
    apply wpK_val
    · rfl
    · intro w' hw'
      go_simp
      first | exact rfl | exact ⟨rfl, hw'⟩
    simp only [Act.put, List.setIfInBounds_toArray, List.set_cons_succ, List.set_cons_zero]
    apply wpK_val
    · rfl
    · intro w' hw'
      have hcell := (hw'.cell (p := ⟨w.heap.size, 0, none⟩) hzl).trans cz.out
      go_simp
      first | exact rfl | exact ⟨rfl, hw'⟩
    simp only [Act.put, List.setIfInBounds_toArray, List.set_cons_succ, List.set_cons_zero]
    apply wpK_val
    · rfl
    · intro w' hw'
      go_simp
      exact (L.out w' hw').mono fun e w5 h => ⟨h.1, h.2 ▸ hw'⟩
    simp only [Act.put, List.setIfInBounds_toArray, List.set_cons_succ, List.set_cons_zero]
    apply wpK_val
    · rfl
    · intro w' hw'
      go_simp
      exact (find_any ⟨_, rfl⟩ (L.out.on hw') j 0 n).mono fun e w5 h => ⟨by rw [h.1, HE.out], h.2 ▸ hw'⟩
    simp only [Act.put, List.setIfInBounds_toArray, List.set_cons_succ, List.set_cons_zero]
    refine wpK_nil fun w2 h2 => ?_
    have B2 := hid (K.out.b.trans (h2.mono K.out.b.size))
    have l2 := K.out.l.below h2 K.out.l.lt
    have e2 := K.out.e.below h2 K.out.e.lt
    have c1 := l2.cell 0
    have f1 := l2.frozen 0
    have c2 := e2.cell 0
    have f2 := e2.frozen 0
    have L2 := hid l2
    have E2 := hid e2
    clear h2 l2 e2 cz
    go_wp2_with fail
    first | refine bodyPost_ret (results_cell2 rfl _ _ (w.heap.size + 2) (w.heap.size + 3) none 0 0 1 rfl rfl ?_ ?_) rfl ⟨rfl, ?_⟩ | refine bodyPost_ret (results_cell2 rfl _ _ (w.heap.size + 2) (w.heap.size + 3) none 0 0 2 rfl rfl ?_ ?_) rfl ⟨rfl, ?_⟩
    · exact ((L2.out.setCell_same 0 (.slice none 0 0)).setCell_other (p := ⟨w.heap.size + 3, 0, none⟩) (by show w.heap.size + 3 ≠ w.heap.size + 2; omega) _).cell 0
    · exact ((E2.out.setCell_other (p := ⟨w.heap.size + 2, 0, none⟩) (by show w.heap.size + 2 ≠ w.heap.size + 3; omega) _).setCell_same 0 _).cell 0
    · exact (B2.out.setCell (by show w.heap.size ≤ w.heap.size + 2; omega) _).setCell (by show w.heap.size ≤ w.heap.size + 3; omega) _
end TrM
end Go.Proofs.YtdmnhpgafbcehaaDoor
