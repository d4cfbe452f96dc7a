/-
  Contracts of the program's row: set, Put, Lose, Get.
  The program's row: the columns gone through by a function; which are lost, and whether none is.
  The program's row: the columns gone through by a function; which are lost, and whether none is.
  The program's row: which columns are lost, whether it is whole, whether it is right.
  The program's row: New, Right.
  Contracts of the document's row (casemateref16): Lost, Right, Ints, New.
  Contracts of the document's row (casemateref16): New.
  Contracts of the document's row (casemateref16): Mend.
  The program's row: Mend.
  What both Writes want: a row of P, Q and the old column is built.
  The program's row: Write.
  The program's row: Write.
-/
import Derived.Test.YtlbfjnddbdpdpaaMrg5
import Derived.RangeFuncNested
import Derived.RangeFuncBound
import Derived.RangeFuncCalls
import Derived.RangeFuncLeaves
import Derived.RangeFuncBox
import Derived.Shelf.Abstract
import Derived.Shelf.RegionOpen
import Derived.WalkKit
import Derived.OwnWalkIn
import Derived.TacticsInMore
import Derived.LoopNIn
import Derived.LoopIn
import Derived.Maps.AppendAt
set_option linter.unusedVariables false
set_option linter.unusedSimpArgs false
set_option maxRecDepth 100000
namespace Go.Proofs.Ytlbfjnddbdpdpaa
open Go.ChangeShapes Go.WideShapes Go.ChangeAt Go.RowKit
attribute [local go_sem] Gives
namespace StM
section
variable {ops : Array Oper} {a : Act} {w : World} {dst : Option Tmp} {ty : TypeId} {pos : String} {after : Array Edge} {x y : Operand} {g n cap i B : Nat} {F : Nat → Nat → Nat} {f : Nat → Nat}
theorem gives_sto {gd : Option (Nat × Bool)} {R : World → Prop} (hx : a.eval x = .pointer (some ⟨g, i * 64, none⟩)) (hy : a.eval y = .agg (sec f)) (h : OwnS w B (.slice (some ⟨g, 0, none⟩) n cap) n F) (hi : i < n)
    (hR : ∀ w', OwnS w' B (.slice (some ⟨g, 0, none⟩) n cap) n (upd F i f) → w.grownBy w' (some g) → R w') : Gives Try.prog ⟨dst, .store 32 x y, ty, pos, after, gd⟩ a w undef R := by
  obtain ⟨cur, h1, h2⟩ := h.store f hi
  refine gives_skip (w' := w.setRow g cur) ?_ (hR _ h2 (only_row (only_refl w g) _ (.inl rfl)))
  unfold execOp
  simp only [hx, hy, Instr.storeAt, Instr.sureAddr, Sem.run_bind, Sem.run_pure, h1, Result.andThen_ok]
theorem ssto {C : Bool → World → Prop} {Qk : Act → Prop} {rest : List Oper} {k s : Nat} {gd : Option (Nat × Bool)} (g i : Nat) (f : Nat → Nat) (hk : k = s) (hwt : Region.wanted ⟨dst, .store 32 x y, ty, pos, after, gd⟩ (yielded ops a.tmps) = true)
    (hx : a.eval x = .pointer (some ⟨g, i * 64, none⟩)) (hy : a.eval y = .agg (sec f))
    (h : ∀ w, C false w → ∃ (B n cap : Nat) (F : Nat → Nat → Nat), OwnS w B (.slice (some ⟨g, 0, none⟩) n cap) n F ∧ i < n ∧ ∀ w', OwnS w' B (.slice (some ⟨g, 0, none⟩) n cap) n (upd F i f) → w.grownBy w' (some g) → C true w')
    (h2 : wpS Try.prog ops s C Qk (k + 1) rest (a.put dst undef)) : wpS Try.prog ops s C Qk k (⟨dst, .store 32 x y, ty, pos, after, gd⟩ :: rest) a :=
  wpS_put hk hwt (fun w hw => by
    obtain ⟨B, n, cap, F, h1, h3, h4⟩ := h w hw
    exact gives_sto hx hy h1 h3 h4) h2
end
section
variable {w : World} {g gc cc gg cg : Nat} {u : Rw}
def setU (u : Rw) (c : Int) (x : Nat → Nat) (h : Bool) : Rw := if u.has c then { u with F := upd u.F c.toNat x, M := fun j => if j = c.toNat then h else u.M j } else u
/-- The row ahead of, and behind, a column's store. -/
def sb (b : Bool) (u : Rw) (j : Nat) (x : Nat → Nat) : Rw := { u with F := if b then upd u.F j x else u.F }
set_option maxHeartbeats 1000000 in
theorem set_any (H : Sq w g gc cc gg cg u) (hn : 0 < u.n) (c : Int) (x : Nat → Nat) (h : Bool) : Calls Try.prog 29 #[.pointer (some ⟨g, 0, none⟩), .int .i64 c, .agg (sec x), .bool h] w
    fun e w' => e = .returned (.int .i64 (argE u c)) ∧ Sq w' g gc cc gg cg (setU u c x h) ∧ Turn (fun k => k = gc ∨ k = gg) w w' := by
  have HH := hid H
  clear H
  by_cases hc : u.has c
  · obtain ⟨j, rfl⟩ : ∃ j : Nat, c = j := ⟨c.toNat, by have := hc.1; omega⟩
    have hj : j < u.n := by have := hc.2; omega
    have e1 : argE u j = 0 := by unfold argE; rw [if_pos hc]
    have e2 : setU u j x h = { u with F := upd u.F j x, M := fun i => if i = j then h else u.M i } := by unfold setU; rw [if_pos hc]; rfl
    have e3 := hid (show findE u.n j u.n = 0 by unfold findE; rw [if_neg (by omega), if_pos (by omega)])
    rw [e1, e2]
    clear e1 e2 hc
    go_enter Try.func29, Try.ntmps29
    go_upto_region 1 with fail
    generalize hw1 : World.alloc w _ = w1
    have B1 := hid (show Below w.heap.size w w1 by rw [← hw1]; exact (Below.refl _ _).alloc (Nat.le_refl _) _)
    have b1 := hid (show Blk w1 w.heap.size 32 (sec x) by rw [← hw1]; exact Blk.top rfl rfl)
    have H1 := hid (HH.out.on B1.out)
    have ne := hid (show ¬ w.heap.size = gc by have := HH.out.cLt; omega)
    clear hw1
    go_wp2_with fail
    refine (columns_any H1.out.cn).mono ?_
    rintro e w2 ⟨rfl, rfl⟩
    go_wp2_with fail
    refine (find_any H1.out.cn _ _).mono ?_
    rintro e w2 ⟨rfl, rfl⟩
    rw [e3.out]
    go_wp2_with fail
    refine wp_region_put (C := fun b w' => Sq w' g gc cc gg cg (sb b u j x) ∧ Blk w' w.heap.size 32 (sec x) ∧ Turn (fun k => k = gc) w1 w') 13 14 (by omega) (by kernel_rfl) (by kernel_rfl) (by kernel_rfl) ⟨H1.out.drew, b1.out.drew, Turn.drew _⟩ ?_
    simp only [List.take_succ_cons, List.take_zero, List.drop_succ_cons, List.drop_zero]
    apply wpS_val
    · decide
    · rfl
    · intro bb w' hw'
      go_simp
      first | exact rfl | exact ⟨rfl, hw'⟩
    simp only [Act.put, List.setIfInBounds_toArray, List.set_cons_succ, List.set_cons_zero]
    apply wpS_val
    · decide
    · rfl
    · intro bb w' hw'
      go_simp
      first | exact rfl | exact ⟨rfl, hw'⟩
    simp only [Act.put, List.setIfInBounds_toArray, List.set_cons_succ, List.set_cons_zero]
    apply wpS_val
    · decide
    · rfl
    · intro bb w' hw'
      go_simp
      first | exact rfl | exact ⟨rfl, hw'⟩
    simp only [Act.put, List.setIfInBounds_toArray, List.set_cons_succ, List.set_cons_zero]
    apply wpS_val
    · decide
    · rfl
    · intro bb w' hw'
      have q0 : w'.cell? ⟨g, 0, none⟩ = some (.slice (some ⟨gc, 0, none⟩) u.n cc) := hw'.1.q0
      go_simp
      first | exact rfl | exact ⟨rfl, hw'⟩
    simp only [Act.put, List.setIfInBounds_toArray, List.set_cons_succ, List.set_cons_zero]
    apply wpS_val
    · decide
    · rfl
    · intro bb w' hw'
      go_simp
      first | exact rfl | exact ⟨rfl, hw'⟩
    simp only [Act.put, List.setIfInBounds_toArray, List.set_cons_succ, List.set_cons_zero]
    apply wpS_val
    · decide
    · rfl
    · intro bb w' hw'
      go_simp
      first | exact rfl | exact ⟨rfl, hw'⟩
    simp only [Act.put, List.setIfInBounds_toArray, List.set_cons_succ, List.set_cons_zero]
    apply wpS_val
    · decide
    · rfl
    · intro bb w' hw'
      go_simp
      first | exact rfl | exact ⟨rfl, hw'⟩
    simp only [Act.put, List.setIfInBounds_toArray, List.set_cons_succ, List.set_cons_zero]
    apply wpS_val
    · decide
    · rfl
    · intro bb w' hw'
      go_simp
      first | exact rfl | exact ⟨rfl, hw'⟩
    simp only [Act.put, List.setIfInBounds_toArray, List.set_cons_succ, List.set_cons_zero]
    apply wpS_val
    · decide
    · rfl
    · intro bb w' hw'
      have q1 : w'.cell? ⟨g, 1, none⟩ = some (.slice (some ⟨gg, 0, none⟩) u.n cg) := hw'.1.q1
      go_simp
      first | exact rfl | exact ⟨rfl, hw'⟩
    simp only [Act.put, List.setIfInBounds_toArray, List.set_cons_succ, List.set_cons_zero]
    apply wpS_val
    · decide
    · rfl
    · intro bb w' hw'
      go_simp
      first | exact rfl | exact ⟨rfl, hw'⟩
    simp only [Act.put, List.setIfInBounds_toArray, List.set_cons_succ, List.set_cons_zero]
    apply sld
    · decide
    · rfl
    · rfl
    · exact fun b w' hw' => hw'.2.1
    simp only [Act.put, List.setIfInBounds_toArray, List.set_cons_succ, List.set_cons_zero]
    apply wpS_val
    · decide
    · rfl
    · intro bb w' hw'
      go_simp
      first | exact rfl | exact ⟨rfl, hw'⟩
    simp only [Act.put, List.setIfInBounds_toArray, List.set_cons_succ, List.set_cons_zero]
    apply wpS_val
    · decide
    · rfl
    · intro bb w' hw'
      go_simp
      first | exact rfl | exact ⟨rfl, hw'⟩
    simp only [Act.put, List.setIfInBounds_toArray, List.set_cons_succ, List.set_cons_zero]
    apply ssto gc j x
    · rfl
    · rfl
    · rfl
    · rfl
    · intro w' hw'
      refine ⟨0, u.n, cc, u.F, hw'.1.cols, hj, fun w2 o2 g2 => ?_⟩
      have := hw'.1.put o2 g2
      exact ⟨this.1, hw'.2.1.turn this.2 ne.out, hw'.2.2.trans this.2 fun _ e => .inl e⟩
    simp only [Act.put]
    refine wpS_nil fun w2 hw2 => ?_
    have P2 : Sq w2 g gc cc gg cg { u with F := upd u.F j x } := hw2.1
    have H2 := hid P2
    have T2 := hid hw2.2.2
    have q2 := P2.at' (j := j) hj
    have q3 := P2.fro j
    clear hw2 P2
    go_wp2_with fail
    go_ret
    exact ⟨rfl, H2.out.flag hj h, ((Turn.of_new (S := fun k => k = gc ∨ k = gg) B1.out).trans (T2.out.mono fun k e => .inl e) fun _ e => .inl e).trans (Turn.setCell _ _ _ (.inr rfl)) fun _ e => .inl e⟩
  · have e1 : argE u c = 2 := by unfold argE; rw [if_neg hc]
    have e2 : setU u c x h = u := by unfold setU; rw [if_neg hc]
    have e3 := hid (show findE u.n c u.n = 2 by unfold findE; rw [if_neg (by omega)]; exact if_neg hc)
    rw [e1, e2]
    clear e1 e2 hc
    go_enter Try.func29, Try.ntmps29
    go_upto_region 1 with fail
    generalize hw1 : World.alloc w _ = w1
    have B1 := hid (show Below w.heap.size w w1 by rw [← hw1]; exact (Below.refl _ _).alloc (Nat.le_refl _) _)
    have H1 := hid (HH.out.on B1.out)
    clear hw1
    go_wp2_with fail
    refine (columns_any H1.out.cn).mono ?_
    rintro e w2 ⟨rfl, rfl⟩
    go_wp2_with fail
    refine (find_any H1.out.cn _ _).mono ?_
    rintro e w2 ⟨rfl, rfl⟩
    rw [e3.out]
    go_wp2_with fail
    go_ret
    exact ⟨rfl, H1.out, Turn.of_new B1.out⟩
theorem put_any (H : Sq w g gc cc gg cg u) (hn : 0 < u.n) (c : Int) (x : Nat → Nat) : Calls Try.prog 11 #[.pointer (some ⟨g, 0, none⟩), .int .i64 c, .agg (sec x)] w
    fun e w' => e = .returned (.int .i64 (argE u c)) ∧ Sq w' g gc cc gg cg (setU u c x true) ∧ Turn (fun k => k = gc ∨ k = gg) w w' := by
  have HH := hid H
  clear H
  go_enter Try.func11, Try.ntmps11
  go_upto_region 1 with fail
  generalize hw1 : World.alloc w _ = w1
  have B1 := hid (show Below w.heap.size w w1 by rw [← hw1]; exact (Below.refl _ _).alloc (Nat.le_refl _) _)
  have b1 := hid (show Blk w1 w.heap.size 32 (sec x) by rw [← hw1]; exact Blk.top rfl rfl)
  have H1 := hid (HH.out.on B1.out)
  clear hw1
  go_wp2_with ((with_reducible apply ld); rfl; exact b1.out)
  refine (set_any H1.out hn c x true).mono ?_
  rintro e w2 ⟨rfl, P2, T2⟩
  have P := hid P2
  have T := hid T2
  clear P2 T2
  go_wp2_with fail
  go_ret
  exact ⟨rfl, P.out, (Turn.of_new (S := fun k => k = gc ∨ k = gg) B1.out).trans T.out fun _ e => .inl e⟩
theorem lose_any (H : Sq w g gc cc gg cg u) (hn : 0 < u.n) (c : Int) : Calls Try.prog 13 #[.pointer (some ⟨g, 0, none⟩), .int .i64 c] w
    fun e w' => e = .returned (.int .i64 (argE u c)) ∧ Sq w' g gc cc gg cg (setU u c (fun _ => 0) false) ∧ Turn (fun k => k = gc ∨ k = gg) w w' := by
  have HH := hid H
  clear H
  go_enter Try.func13, Try.ntmps13
  go_wp2_with (with_reducible apply bsec)
  refine (set_any HH.out hn c (fun _ => 0) false).mono ?_
  rintro e w2 ⟨rfl, P2, T2⟩
  have P := hid P2
  have T := hid T2
  clear P2 T2
  go_wp2_with fail
  go_ret
  exact ⟨rfl, P.out, T.out⟩
def getUE (u : Rw) (c : Int) : Nat := if u.has c then (if u.M c.toNat then 0 else 5) else 2
def getUS (u : Rw) (c : Int) : Nat → Nat := if u.has c ∧ u.M c.toNat = true then u.F c.toNat else fun _ => 0
set_option maxHeartbeats 400000 in
theorem get_any (H : Sq w g gc cc gg cg u) (hn : 0 < u.n) (c : Int) : Calls Try.prog 20 #[.pointer (some ⟨g, 0, none⟩), .int .i64 c] w fun e w' => e = .returned (.tuple #[.agg (sec (getUS u c)), .int .i64 (getUE u c)]) ∧ Below w.heap.size w w' := by
  have HH := hid H
  clear H
  by_cases h : u.has c
  · obtain ⟨j, rfl⟩ : ∃ j : Nat, c = j := ⟨c.toNat, by have := h.1; omega⟩
    have hj : j < u.n := by have := h.2; omega
    have e3 := hid (show findE u.n j u.n = 0 by unfold findE; rw [if_neg (by omega), if_pos (by omega)])
    cases hm : u.M j
    · have e1 : getUE u j = 5 := by unfold getUE; rw [if_pos h, Int.toNat_natCast, hm]; rfl
      have e2 : getUS u j = fun _ => 0 := by unfold getUS; rw [if_neg fun e => by have := e.2; rw [Int.toNat_natCast, hm] at this; cases this]
      rw [e1, e2]
      clear e1 e2 h
      go_enter Try.func20, Try.ntmps20
      go_upto_region 1 with fail
      generalize hw1 : World.alloc w _ = w1
      have B1 := hid (show Below w.heap.size w w1 by rw [← hw1]; exact (Below.refl _ _).alloc (Nat.le_refl _) _)
      have b1 := hid (show Blk w1 w.heap.size 32 (sec fun _ => 0) by rw [← hw1]; exact Blk.top zlit rfl)
      have H1 := hid (HH.out.on B1.out)
      clear hw1
      have q0 := H1.out.q0
      have q1 := H1.out.q1
      have q2 := H1.out.at' hj
      rw [hm] at q2
      clear hm
      go_wp2_with fail
      refine (columns_any H1.out.cn).mono ?_
      rintro e w2 ⟨rfl, rfl⟩
      go_wp2_with fail
      refine (find_any H1.out.cn _ _).mono ?_
      rintro e w2 ⟨rfl, rfl⟩
      rw [e3.out]
      go_wp2_with (first | (with_reducible apply bsec) | ((with_reducible apply stx); rfl; rfl; exact b1.out))
      apply ret_sect Try.results20
      · rfl
      · rfl
      · rfl
      · exact b1.out.setRow_same _
      exact ⟨rfl, below_setRow B1.out (Nat.le_refl _) _⟩
    · have e1 : getUE u j = 0 := by unfold getUE; rw [if_pos h, Int.toNat_natCast, hm]; rfl
      have e2 : getUS u j = u.F j := by unfold getUS; rw [if_pos ⟨h, by rw [Int.toNat_natCast]; exact hm⟩]; rfl
      rw [e1, e2]
      clear e1 e2 h
      go_enter Try.func20, Try.ntmps20
      go_upto_region 1 with fail
      generalize hw1 : World.alloc w _ = w1
      have B1 := hid (show Below w.heap.size w w1 by rw [← hw1]; exact (Below.refl _ _).alloc (Nat.le_refl _) _)
      have b1 := hid (show Blk w1 w.heap.size 32 (sec fun _ => 0) by rw [← hw1]; exact Blk.top zlit rfl)
      have H1 := hid (HH.out.on B1.out)
      clear hw1
      have q0 := H1.out.q0
      have q1 := H1.out.q1
      have q2 := H1.out.at' hj
      rw [hm] at q2
      clear hm
      go_wp2_with fail
      refine (columns_any H1.out.cn).mono ?_
      rintro e w2 ⟨rfl, rfl⟩
      go_wp2_with fail
      refine (find_any H1.out.cn _ _).mono ?_
      rintro e w2 ⟨rfl, rfl⟩
      rw [e3.out]
      go_wp2_with (first | ((with_reducible apply ldm (o := j * 64)); rfl; exact H1.out.col hj) | ((with_reducible apply stx); rfl; rfl; exact b1.out))
      apply ret_sect Try.results20
      · rfl
      · rfl
      · rfl
      · exact b1.out.setRow_same _
      exact ⟨rfl, below_setRow B1.out (Nat.le_refl _) _⟩
  · have e1 : getUE u c = 2 := by unfold getUE; rw [if_neg h]
    have e2 : getUS u c = fun _ => 0 := by unfold getUS; rw [if_neg fun e => h e.1]
    have e3 := hid (show findE u.n c u.n = 2 by unfold findE; rw [if_neg (by omega)]; exact if_neg h)
    rw [e1, e2]
    clear e1 e2 h
    go_enter Try.func20, Try.ntmps20
    go_upto_region 1 with fail
    generalize hw1 : World.alloc w _ = w1
    have B1 := hid (show Below w.heap.size w w1 by rw [← hw1]; exact (Below.refl _ _).alloc (Nat.le_refl _) _)
    have b1 := hid (show Blk w1 w.heap.size 32 (sec fun _ => 0) by rw [← hw1]; exact Blk.top zlit rfl)
    have H1 := hid (HH.out.on B1.out)
    clear hw1
    go_wp2_with fail
    refine (columns_any H1.out.cn).mono ?_
    rintro e w2 ⟨rfl, rfl⟩
    go_wp2_with fail
    refine (find_any H1.out.cn _ _).mono ?_
    rintro e w2 ⟨rfl, rfl⟩
    rw [e3.out]
    go_wp2_with (first | (with_reducible apply bsec) | ((with_reducible apply stx); rfl; rfl; exact b1.out))
    apply ret_sect Try.results20
    · rfl
    · rfl
    · rfl
    · exact b1.out.setRow_same _
    exact ⟨rfl, below_setRow B1.out (Nat.le_refl _) _⟩
end
end StM
end Go.Proofs.Ytlbfjnddbdpdpaa
set_option maxRecDepth 100000
namespace Go.Proofs.Ytlbfjnddbdpdpaa
open Go.ChangeShapes Go.WideShapes Go.ChangeAt Go.RowKit Go.Shelf
attribute [local go_sem] Gives
attribute [local go_sem] Oper.semAt_some
namespace StM
theorem Cn.ptr {w : World} {v : Value} {n : Nat} (h : Cn w v n) : ∃ p, v = .pointer p := by
  rcases h with ⟨rfl, _⟩ | ⟨g, _, _, rfl, _⟩
  · exact ⟨_, rfl⟩
  · exact ⟨_, rfl⟩
set_option maxRecDepth 100000 in
set_option maxHeartbeats 1000000 in
theorem those1_in (l N bR bI isF : Nat) (lb : Array Value) (v : Value) (M : Nat → Bool) (T : Nat → Prop) (w1 : World) (hN : N ≤ 64)
    (eIs : ∀ args w, (callFunc isF args).run Try.prog w = .ok (.enter isF args) w)
    (hIs : ∀ k : Nat, k < N → ∀ W, Turn T w1 W → Calls Try.prog isF (#[.int .i64 k] ++ lb) W fun e W' => e = .returned (.bool (M k)) ∧ Below W.heap.size W W')
    (q1 : w1.cell? ⟨bR, 0, none⟩ = some v) (q2 : w1.cell? ⟨bI, 0, none⟩ = some (.func (.func isF) #[] lb)) (hC : Cn w1 v N)
    (d1 : ¬ T bR) (d2 : ¬ T bI) (d3 : ∀ g, v = .pointer (some ⟨g, 0, none⟩) → ¬ T g) (J Jx : List Nat → World → Prop)
    (hY : ∀ pre x W, J pre W → pre.length < N → YieldAt Fence.wide 5 Try.prog l #[.int .i64 ((x : Nat) : Int)] W fun e W' =>
      (e = .returned (.bool true) ∧ J (pre ++ [x]) W' ∧ Turn T W W') ∨ (e = .returned (.bool false) ∧ Jx (pre ++ [x]) W'))
    (W : World) (hJ : AbidesFrom W.heap.size J) (hW : Turn T w1 W) (h0 : J [] W) :
    CallsIn Fence.wide 6 Try.prog 59 #[.func (.yield l) #[] #[], .pointer (some ⟨bR, 0, none⟩), .pointer (some ⟨bI, 0, none⟩)] W fun e W' => (∃ v, e = .returned v) ∧
      ((∃ ys, ys = (List.range N).filter M ∧ J ys W') ∨ (∃ pre, (List.range N).filter M ≠ [] ∧ Jx pre W')) := by
  refine callsIn_of_wp Try.func59 rfl trivial ?_ rfl
  simp only [Try.ntmps59, List.size_toArray, List.length_cons, List.length_nil, Nat.reduceAdd, Nat.reduceSub, Array.replicate_succ, Array.replicate_zero, List.push_toArray, List.append_toArray, List.nil_append, List.cons_append]
  have r1 := hW.cell q1 d1
  have HC := hid (hC.turn hW d3)
  clear hC
  gi_wp2
  refine ⟨trivial, (callsIn_wide.2 (columns_any HC.out)).mono ?_⟩
  rintro e w2 ⟨rfl, rfl⟩
  gi_wp2
  gi_loopw [7] (fun u wr => ∃ k : Nat, u = .int .i64 k ∧ k ≤ N ∧ J ((List.range k).filter M) wr ∧ Turn T w1 wr) (fun u _ => N - (intOf u).toNat)
  case atStart => exact ⟨0, rfl, Nat.zero_le _, h0, hW⟩
  case round =>
    obtain ⟨k, rfl, hk, hJs, hT⟩ := hrel
    by_cases hgo : k < N
    · have t1 : (k : Int) < N := by omega
      have r2 := hT.cell q2 d2
      gi_wp2
      refine ⟨trivial, (callsIn_wide.2 (hIs k hgo wr hT)).mono ?_⟩
      rintro e w2 ⟨rfl, h2⟩
      have hJ2 : J ((List.range k).filter M) w2 := hJ _ _ _ none hJs ⟨h2.os, h2.tape, h2.output, h2.size, fun i hi _ => h2.block i hi⟩ (fun r e => by cases e)
      have hT2 : Turn T w1 w2 := hT.trans (Turn.of_new (S := T) h2) fun _ e => .inl e
      clear hJs hT r2
      have hlen : ((List.range k).filter M).length < N := Nat.lt_of_le_of_lt (List.length_filter_le _ _) (by rw [List.length_range]; exact hgo)
      cases hM : M k
      · have hn : (List.range (k + 1)).filter M = (List.range k).filter M := by rw [List.range_succ, List.filter_append]; simp [hM]
        gi_wp2
        refine ⟨fun _ h => (by cases h), ?_⟩
        gi_wp2
        go_roundw
        case rel => exact ⟨k + 1, by go_num, by omega, by rw [hn]; exact hJ2, hT2⟩
        case measure => simp [intOf] <;> omega
      · have hn : (List.range (k + 1)).filter M = (List.range k).filter M ++ [k] := by rw [List.range_succ, List.filter_append]; simp [hM]
        have hne : (List.range N).filter M ≠ [] := fun e => by
          have : k ∈ (List.range N).filter M := List.mem_filter.2 ⟨List.mem_range.2 hgo, hM⟩
          rw [e] at this; cases this
        obtain ⟨fn, tmps, assign, body, hy, hR⟩ := hY _ k w2 hJ2 hlen
        gi_wp2
        refine hR.mono ?_
        rintro e w3 (⟨rfl, hJ3, hk3⟩ | ⟨rfl, hJx3⟩)
        · have hT3 : Turn T w1 w3 := hT2.trans hk3 fun _ e => .inl e
          gi_wp2
          go_roundw
          case rel => exact ⟨k + 1, by go_num, by omega, by rw [hn]; exact hJ3, hT3⟩
          case measure => simp [intOf] <;> omega
        · gi_wp2
          refine bodyPost_ret (results_none rfl _ _ _) rfl ?_
          exact ⟨⟨_, rfl⟩, .inr ⟨_, hne, hJx3⟩⟩
    · have t1 : ¬ (k : Int) < N := by omega
      have hkn : k = N := by omega
      gi_wp2
      go_end0
      exact ⟨⟨_, rfl⟩, .inl (by rw [hkn] at hJs; exact hJs)⟩
/-- What the loop may turn: the box of what is collected, and what is new. -/
def Tl (hl B : Nat) (k : Nat) : Prop := k = hl ∨ B ≤ k
theorem turn_putObj {T : Nat → Prop} (W : World) (l : Nat) (o' : Obj) (hl : T l) : Turn T W (W.putObj l o') := Turn.of_grown (grownBy_putObj' W l o') fun k e => by cases e; exact hl
theorem row_low {W : World} {B B' : Nat} {e : TypeId} {size : Nat} {v : Value} {k : Nat} {xs : List Value} (h : W.ownsRow B e size v k xs) (hB : B' ≤ B) : W.ownsRow B' e size v k xs :=
  ⟨h.1, h.2.imp id fun ⟨g, cap, cur, hv, hg, rest⟩ => ⟨g, cap, cur, hv, Nat.le_trans hB hg, rest⟩⟩
/-- An append to what a box holds, where the box lies ahead of the loop, and the row behind. -/
theorem box_app {W w1 : World} {n₀ B : Nat} {t e : TypeId} {size : Nat} {v v' : Value} {k m : Nat} {xs ys : List Value} {tmp : Obj} {T : Nat → Prop}
    (hv : Boxed W B t v) (hte : t ≠ e) (hrow : W.ownsRow n₀ e size v k xs) (hn₀ : n₀ ≤ W.heap.size) (hB : T B) (hT : ∀ k, n₀ ≤ k → T k)
    (hown' : w1.ownsRow n₀ e size v' m ys) (hgrow : (W.alloc tmp).grownBy w1 v.ownBlock) :
    Boxed w1 B t v ∧ Boxed (w1.setCell ⟨B, 0, none⟩ v') B t v' ∧ (w1.setCell ⟨B, 0, none⟩ v').ownsRow n₀ e size v' m ys ∧ KeepsOthers W (w1.setCell ⟨B, 0, none⟩ v') ∧ Turn T W (w1.setCell ⟨B, 0, none⟩ v') := by
  obtain ⟨h1, h2, _, h4, _⟩ := hv.appended hte (row_low hrow (Nat.zero_le _)) (Nat.zero_le _) (Nat.zero_le _) (row_low hown' (Nat.zero_le _)) hgrow
  refine ⟨h1, h2, hown'.kept (grownBy_setCell' w1 B v') (.inr (h1.not_row hte hown').symm), h4, ?_⟩
  refine ((Turn.alloc (S := T) W tmp).trans (Turn.of_grown (S := T) hgrow fun j ej => hT j ?_) fun _ e => .inl e).trans (Turn.setCell (S := T) w1 ⟨B, 0, none⟩ v' hB) fun _ e => .inl e
  rcases hrow.2 with ⟨rfl, _⟩ | ⟨g, cap, cur, rfl, hb, _, _⟩
  · simp [Value.ownBlock] at ej
  · obtain rfl : g = j := by simpa [Value.ownBlock] using ej
    exact hb
theorem infoI : (Try.prog.info? 3).map (fun i => (i.zero, i.size, i.bytes)) = some (some (.int .i64 0), 1, 8) := by kernel_rfl
end StM
end Go.Proofs.Ytlbfjnddbdpdpaa
set_option maxRecDepth 100000
namespace Go.Proofs.Ytlbfjnddbdpdpaa
open Go.ChangeShapes Go.WideShapes Go.ChangeAt Go.RowKit Go.Shelf
attribute [local go_sem] Gives
attribute [local go_sem] Oper.semAt_some
namespace StM
theorem those_any (p : Option Addr) (f : Value) (hf : ∃ k lb, f = .func (.func k) #[] lb) (w : World) : Calls Try.prog 38 #[.pointer p, f] w fun e w' =>
    e = .returned (.func (.func 59) #[] #[.pointer (some ⟨w.heap.size, 0, none⟩), .pointer (some ⟨w.heap.size + 1, 0, none⟩)]) ∧
      w' = (w.alloc (.cells #[.pointer p] 23)).alloc (.cells #[f] 67) := by
  obtain ⟨k, lb, rfl⟩ := hf
  go_enter Try.func38, Try.ntmps38
  go_wp2_with fail
  refine bodyPost_ret (results_tmp (t := 4) rfl _ _ _) rfl ?_
  exact ⟨rfl, rfl⟩
theorem gaps_any (p : Option Addr) (w : World) : Calls Try.prog 42 #[.pointer p] w fun e w' =>
    e = .returned (.func (.func 59) #[] #[.pointer (some ⟨w.heap.size + 1, 0, none⟩), .pointer (some ⟨w.heap.size + 2, 0, none⟩)]) ∧
      Below w.heap.size w w' ∧ Boxed w' w.heap.size 23 (.pointer p) ∧ Boxed w' (w.heap.size + 1) 23 (.pointer p) ∧ Boxed w' (w.heap.size + 2) 67 (.func (.func 63) #[] #[.pointer (some ⟨w.heap.size, 0, none⟩)]) ∧ w'.heap.size = w.heap.size + 3 := by
  go_enter Try.func42, Try.ntmps42
  go_wp2_with fail
  refine (those_any p _ ⟨_, _, rfl⟩ _).mono ?_
  rintro e w1 ⟨rfl, hw1⟩
  have b0 : Boxed (w.alloc (.cells #[.pointer p] 23)) w.heap.size 23 (.pointer p) := Boxed.new _ _ _
  have b1 := Boxed.new (w.alloc (.cells #[.pointer p] 23)) 23 (.pointer p)
  have b2 := Boxed.new ((w.alloc (.cells #[.pointer p] 23)).alloc (.cells #[.pointer p] 23)) 67 (.func (.func 63) #[] #[.pointer (some ⟨w.heap.size, 0, none⟩)])
  rw [World.size_alloc] at b1
  rw [World.size_alloc, World.size_alloc] at b2
  have H : Below w.heap.size w w1 ∧ Boxed w1 w.heap.size 23 (.pointer p) ∧ Boxed w1 (w.heap.size + 1) 23 (.pointer p) ∧ Boxed w1 (w.heap.size + 2) 67 (.func (.func 63) #[] #[.pointer (some ⟨w.heap.size, 0, none⟩)]) ∧ w1.heap.size = w.heap.size + 3 := by
    rw [hw1]
    exact ⟨(((Below.refl _ w).alloc (Nat.le_refl _) _).alloc (by simp) _).alloc (by simp; omega) _, (b0.alloc _).alloc _, b1.alloc _, b2, by simp⟩
  rw [World.size_alloc]
  have HH := hid H
  clear H b0 b1 b2 hw1
  go_wp2_with fail
  go_ret
  exact ⟨rfl, HH.out⟩
/-- Whether a column is lost. -/
theorem gap_any {g gc cc gg cg : Nat} {u : Rw} {b k : Nat} {W : World} (H : Sq W g gc cc gg cg u) (hk : k < u.n) (hb : W.cell? ⟨b, 0, none⟩ = some (.pointer (some ⟨g, 0, none⟩))) :
    Calls Try.prog 63 #[.int .i64 k, .pointer (some ⟨b, 0, none⟩)] W fun e W' => e = .returned (.bool (!u.M k)) ∧ Below W.heap.size W W' := by
  have q1 := H.q1
  have q2 := H.at' hk
  go_enter Try.func63, Try.ntmps63
  go_wp2_with fail
  go_ret
  exact ⟨rfl, Below.refl _ _⟩
set_option maxRecDepth 100000 in
set_option maxHeartbeats 2000000 in
theorem append_any (N bR bI isF : Nat) (lb : Array Value) (v0 : Value) (M : Nat → Bool) (w : World) (hN : N ≤ 64)
    (eIs : ∀ args w, (callFunc isF args).run Try.prog w = .ok (.enter isF args) w)
    (hIs : ∀ k : Nat, k < N → ∀ W, Below w.heap.size w W → Calls Try.prog isF (#[.int .i64 k] ++ lb) W fun e W' => e = .returned (.bool (M k)) ∧ Below W.heap.size W W')
    (q1 : w.cell? ⟨bR, 0, none⟩ = some v0) (q2 : w.cell? ⟨bI, 0, none⟩ = some (.func (.func isF) #[] lb)) (hC : Cn w v0 N) :
    Calls Try.prog 60 #[.slice none 0 0, .func (.func 59) #[] #[.pointer (some ⟨bR, 0, none⟩), .pointer (some ⟨bI, 0, none⟩)]] w fun e w' => ∃ v, e = .returned v ∧ OwnI w' w.heap.size v ((List.range N).filter M) ∧ Below w.heap.size w w' := by
  refine (callsIn_wide (n := 7)).1 ?_
  obtain ⟨i0, hi, hz0, hz1, hz2⟩ := info_parts infoI
  have lR : bR < w.heap.size := World.block_lt_of_cell? w _ q1
  have lI : bI < w.heap.size := World.block_lt_of_cell? w _ q2
  refine callsIn_of_wp_marks Try.func60 rfl trivial ?_ rfl
  simp only [Try.ntmps60, List.size_toArray, List.length_cons, List.length_nil, Nat.reduceAdd, Nat.reduceSub, Array.replicate_succ, Array.replicate_zero, List.push_toArray, List.append_toArray, List.nil_append, List.cons_append]
  obtain ⟨w3, hw3⟩ : ∃ w3, w3 = w.alloc (.cells #[.slice none 0 0] 39) := ⟨_, rfl⟩
  have hsz : w3.heap.size = w.heap.size + 1 := by rw [hw3]; simp
  have B0 : Below w.heap.size w w3 := by rw [hw3]; exact (Below.refl _ w).alloc (Nat.le_refl _) _
  have bL : Boxed w3 w.heap.size 39 (.slice none 0 0) := by rw [hw3]; exact Boxed.new w _ _
  have r1 : w3.cell? ⟨bR, 0, none⟩ = some v0 := (B0.cell (p := ⟨bR, 0, none⟩) lR).trans q1
  have r2 : w3.cell? ⟨bI, 0, none⟩ = some (.func (.func isF) #[] lb) := (B0.cell (p := ⟨bI, 0, none⟩) lI).trans q2
  have hT : ∀ k, Tl w.heap.size w3.heap.size k → w.heap.size ≤ k := fun k e => by rcases e with e | e <;> omega
  have HB := hid (show ∀ W, Turn (Tl w.heap.size w3.heap.size) w3 W → Below w.heap.size w W from fun W h => B0.trans (h.below (by omega) hT))
  have C3 := hC.on B0
  have hd3 : ∀ g, v0 = .pointer (some ⟨g, 0, none⟩) → ¬ Tl w.heap.size w3.heap.size g := fun g e => by have := hC.lt g e; unfold Tl; omega
  gi_wp2
  rw [← hw3]
  clear hw3 q1 q2
  refine wpIn_rangeFunc_ownG (α := Nat) rfl (by omega) (gf := 59) (lb := #[.pointer (some ⟨bR, 0, none⟩), .pointer (some ⟨bI, 0, none⟩)]) rfl trivial (enters_of Try.func59 (by kernel_rfl) rfl)
    (encs := fun x : Nat => #[Value.int .i64 x]) (Kp := Turn (Tl w.heap.size w3.heap.size)) (S := fun ys => ys = (List.range N).filter M) (Sp := fun _ => (List.range N).filter M ≠ []) (N := N) (w0 := w3)
    (fun l J Jx W hW hJ _ hY h0 => those1_in l N bR bI isF lb v0 M (Tl w.heap.size w3.heap.size) w3 hN eIs (fun k hk W h => hIs k hk W (HB.out W h)) r1 r2 C3 (by unfold Tl; omega) (by unfold Tl; omega) hd3 J Jx hY W hJ
      ((Turn.of_below hW).mono fun k e => .inr e) h0)
    (fun h1 h2 => h1.trans h2 fun _ e => .inl e) (fun W l o o' hl _ _ _ => turn_putObj W l o' (.inr hl)) (Below.refl _ _) (fun _ => rfl)
    (fun pre W => (∃ v, Boxed W w.heap.size 39 v ∧ W.ownsRow w3.heap.size 3 1 v pre.length (pre.map fun j : Nat => Value.int .i64 j) ∧ True) ∧ Turn (Tl w.heap.size w3.heap.size) w3 W)
    (fun _ _ _ => False)
    (OwnFrom.and (Own.from (holdsRow_own w3.heap.size w.heap.size 39 3 1 (fun pre : List Nat => pre.length) (fun pre => pre.map fun j : Nat => Value.int .i64 j) (fun _ _ => True)) _) (fun s X Y row hs hg hr => hs.trans (Turn.of_grown hg fun k e => .inr (hr k e).1) fun _ e => .inl e))
    (fun _ _ _ _ _ hs _ _ => hs)
    ⟨⟨_, bL, World.ownsRow_nil _ _ _ _, trivial⟩, Turn.refl _ _⟩
    (fun x => { tmps := #[.slice none 0 0, .func (.func 59) #[] #[.pointer (some ⟨bR, 0, none⟩), .pointer (some ⟨bI, 0, none⟩)], .pointer (some ⟨w.heap.size, 0, none⟩), undef, .slice none 0 0, .int .i64 x, .func (.func 59) #[] #[.pointer (some ⟨bR, 0, none⟩), .pointer (some ⟨bI, 0, none⟩)], .int .i64 x, undef, undef, undef, undef, undef], defers := [] }) ?assign ?body ?done ?stop
  case assign =>
    intro l x W K hK
    gi_wp2
    exact hK
  case body =>
    rintro l pre x W ⟨⟨v, hv, hrow, _⟩, hT2⟩ hlt
    have hc := hv.cell
    have hf := hv.frozen
    have hml : 65 ≤ maxLen := by unfold maxLen; omega
    gi_wp2_with (gi_at_builtin; refine wpListIn_append_own _ rfl _ _ 39 rfl w3.heap.size 3 i0 (.int .i64 0) 1 8 Try.underlying39 hi hz0 hz1 hz2 rfl (by decide) _ _ _ rfl (hrow.alloc _) ⟨W.heap.size, 0, none⟩ 1 1 [.int .i64 x] rfl rfl (cell_one_new _ _ _) (by simp [Value.oneCell']) (by omega) (by omega) (by have := hT2.size; simp; omega) ?_; intro v' w4 hown' hgrow _; obtain ⟨g', cap', rfl⟩ := ownsRow_succ hown'; obtain ⟨hv1, hv2, hr2, hk2, hb2⟩ := box_app (T := Tl w.heap.size w3.heap.size) hv (by decide) hrow hT2.size (.inl rfl) (fun _ e => .inr e) hown' hgrow; have hc1 := hv1.cell; have hf1 := hv1.frozen)
    exact ⟨hk2.from _, hb2, ⟨_, hv2, by simpa using hr2, trivial⟩, hT2.trans hb2 fun _ e => .inl e⟩
  case done =>
    rintro D ys W hD rfl ⟨⟨v, hv, hrow, _⟩, hT2⟩ hK
    have hc := hv.cell
    gi_wp2
    refine ⟨by simp, .inl ⟨_, _, rfl, run_takeDeferred hK, ?_⟩⟩
    exact ⟨_, results_tmp rfl _ _ _, v, rfl, row_low (ownsRow_putObj hrow _ hK rfl) (by omega), (HB.out W hT2).trans (belowK_b (w := w) (Nat.le_refl _) W D _ _ (by omega) hK rfl rfl)⟩
  case stop =>
    rintro D c pre W _ _ h _
    exact h.elim
end StM
end Go.Proofs.Ytlbfjnddbdpdpaa
set_option maxRecDepth 100000
namespace Go.Proofs.Ytlbfjnddbdpdpaa
open Go.ChangeShapes Go.WideShapes Go.ChangeAt Go.RowKit Go.Shelf
attribute [local go_sem] Gives
attribute [local go_sem] Oper.semAt_some
namespace StM
theorem collect_any (N bR bI isF : Nat) (lb : Array Value) (v0 : Value) (M : Nat → Bool) (w : World) (hN : N ≤ 64)
    (eIs : ∀ args w, (callFunc isF args).run Try.prog w = .ok (.enter isF args) w)
    (hIs : ∀ k : Nat, k < N → ∀ W, Below w.heap.size w W → Calls Try.prog isF (#[.int .i64 k] ++ lb) W fun e W' => e = .returned (.bool (M k)) ∧ Below W.heap.size W W')
    (q1 : w.cell? ⟨bR, 0, none⟩ = some v0) (q2 : w.cell? ⟨bI, 0, none⟩ = some (.func (.func isF) #[] lb)) (hC : Cn w v0 N) :
    Calls Try.prog 40 #[.func (.func 59) #[] #[.pointer (some ⟨bR, 0, none⟩), .pointer (some ⟨bI, 0, none⟩)]] w fun e w' => ∃ v, e = .returned v ∧ OwnI w' w.heap.size v ((List.range N).filter M) ∧ Below w.heap.size w w' := by
  have A := hid (append_any N bR bI isF lb v0 M w hN eIs hIs q1 q2 hC)
  clear q1 q2 hC hIs
  go_enter Try.func40, Try.ntmps40
  go_wp2_with fail
  refine A.out.mono ?_
  rintro e w1 ⟨v, rfl, h1, h2⟩
  have H := hid (And.intro h1 h2)
  clear h1 h2
  obtain ⟨A1, c1, rfl⟩ := OwnI.len H.out.1
  go_wp2_with fail
  go_ret
  exact ⟨_, rfl, H.out⟩
/-- Which columns are lost: of a row, or of none. -/
theorem lost_gen {v0 : Value} {N : Nat} {M : Nat → Bool} {w : World} (hN : N ≤ 64) (hC : Cn w v0 N)
    (hG : ∀ (b k : Nat) W, k < N → Below w.heap.size w W → W.cell? ⟨b, 0, none⟩ = some v0 → Calls Try.prog 63 #[.int .i64 k, .pointer (some ⟨b, 0, none⟩)] W fun e W' => e = .returned (.bool (M k)) ∧ Below W.heap.size W W') :
    Calls Try.prog 22 #[v0] w fun e w' => ∃ v, e = .returned v ∧ OwnI w' w.heap.size v (gapsL N M) ∧ Below w.heap.size w w' := by
  obtain ⟨p, rfl⟩ := hC.ptr
  have HC := hid hC
  have HG := hid hG
  clear hC hG
  go_enter Try.func22, Try.ntmps22
  go_wp2_with fail
  refine (gaps_any p w).mono ?_
  rintro e w1 ⟨rfl, h1, h2, h3, h4, h5⟩
  have A := hid (collect_any N (w.heap.size + 1) (w.heap.size + 2) 63 #[.pointer (some ⟨w.heap.size, 0, none⟩)] (.pointer p) M w1 hN (enters_of Try.func63 (by kernel_rfl) rfl)
    (fun k hk W hW => HG.out w.heap.size k W hk (h1.trans (hW.mono h1.size)) ((hW.cell (p := ⟨w.heap.size, 0, none⟩) h2.lt).trans h2.cell)) h3.cell h4.cell (HC.out.on h1))
  have B1 := hid h1
  clear h1 h2 h3 h4 h5
  go_wp2_with fail
  refine A.out.mono ?_
  rintro e w2 ⟨v, rfl, h1, h2⟩
  have H := hid (And.intro (show OwnI w2 w.heap.size v (gapsL N M) from row_low h1 B1.out.size) (B1.out.trans (h2.mono B1.out.size)))
  clear h1 h2
  obtain ⟨A1, c1, rfl⟩ := OwnI.len H.out.1
  go_wp2_with fail
  go_ret
  exact ⟨_, rfl, H.out⟩
theorem results_cellb {fn : Func} {p : Tmp} (h : fn.results = #[.cell p 4]) (tmps : Array Value) (w : World) (B : Nat) (b : Bool) (hp : tmps.getD p undef = .pointer (some ⟨B, 0, none⟩)) (hb : Boxed w B 4 (.bool b)) :
    (results fn tmps).run Try.prog w = .ok (.bool b) w := by
  have hp' : tmps[p]?.getD undef = .pointer (some ⟨B, 0, none⟩) := by simpa using hp
  have hv : (loadVar 4 ⟨B, 0, none⟩).run Try.prog w = .ok (.bool b) w := by
    have := hb.cell
    simp [loadVar, go_sem, this]
  simp [results, h, hp', asAddr, hv]
theorem box_from (n₀ B : Nat) (t : TypeId) (v : Value) : _root_.Go.Own (fun (s : List Nat) W => s = [] ∧ Boxed W B t v) := by
  rintro s X Y row ⟨hs, hv⟩ hg hrow
  refine ⟨hs, hv.kept hg fun e' => ?_⟩
  obtain ⟨o, ho, hc⟩ := hrow B e'.symm
  rw [show X.heap[B]? = _ from hv] at ho; cases ho; cases hc
theorem box_from' (B : Nat) (t : TypeId) (v : Value) (c' : Code) (c : Code) : _root_.Go.Own (fun (_ : List Nat) W => c' = c ∧ Boxed W B t v) := by
  rintro s X Y row ⟨hs, hv⟩ hg hrow
  refine ⟨hs, hv.kept hg fun e' => ?_⟩
  obtain ⟨o, ho, hc⟩ := hrow B e'.symm
  rw [show X.heap[B]? = _ from hv] at ho; cases ho; cases hc
set_option maxRecDepth 100000 in
set_option maxHeartbeats 2000000 in
/-- Whether nothing is lost: of a row, or of none. -/
theorem whole_gen {v0 : Value} {N : Nat} {M : Nat → Bool} {w : World} (hN : N ≤ 64) (hC : Cn w v0 N)
    (hG : ∀ (b k : Nat) W, k < N → Below w.heap.size w W → W.cell? ⟨b, 0, none⟩ = some v0 → Calls Try.prog 63 #[.int .i64 k, .pointer (some ⟨b, 0, none⟩)] W fun e W' => e = .returned (.bool (M k)) ∧ Below W.heap.size W W') :
    Calls Try.prog 35 #[v0] w fun e w' => e = .returned (.bool (decide (gapsL N M = []))) ∧ Below w.heap.size w w' := by
  obtain ⟨p, rfl⟩ := hC.ptr
  refine (callsIn_wide (n := 7)).1 ?_
  refine callsIn_of_wp_marks Try.func35 rfl trivial ?_ rfl
  simp only [Try.ntmps35, List.size_toArray, List.length_cons, List.length_nil, Nat.reduceAdd, Nat.reduceSub, Array.replicate_succ, Array.replicate_zero, List.push_toArray, List.append_toArray, List.nil_append, List.cons_append]
  gi_wp2
  generalize hw0 : World.alloc w _ = w0
  have hs0 : w.heap.size < w0.heap.size := by rw [← hw0]; simp
  have B0 : Below w.heap.size w w0 := by rw [← hw0]; exact (Below.refl _ w).alloc (Nat.le_refl _) _
  have b0 : Boxed w0 w.heap.size 4 (.bool false) := by rw [← hw0]; exact Boxed.new w _ _
  clear hw0
  refine ⟨trivial, (callsIn_wide.2 (gaps_any p w0)).mono ?_⟩
  rintro e w3 ⟨rfl, h1, h2, h3, h4, h5⟩
  have B3 : Below w.heap.size w w3 := B0.trans (h1.mono B0.size)
  clear h5
  have h5 := h4.lt
  have bL : Boxed w3 w.heap.size 4 (.bool false) := (h1.block w.heap.size (by omega)).trans b0
  have C3 := hC.on B3
  have hT : ∀ k, Tl w.heap.size w3.heap.size k → w.heap.size ≤ k := fun k e => by rcases e with e | e <;> omega
  have HB := hid (show ∀ W, Turn (Tl w.heap.size w3.heap.size) w3 W → Below w.heap.size w W from fun W h => B3.trans (h.below (by omega) hT))
  have hd3 : ∀ g, (Value.pointer p) = .pointer (some ⟨g, 0, none⟩) → ¬ Tl w.heap.size w3.heap.size g := fun g e => by have := hC.lt g e; unfold Tl; omega
  gi_wp2
  refine wpIn_rangeFunc_ownG (α := Nat) rfl (by omega) (gf := 59) (lb := #[.pointer (some ⟨w0.heap.size + 1, 0, none⟩), .pointer (some ⟨w0.heap.size + 2, 0, none⟩)]) rfl trivial (enters_of Try.func59 (by kernel_rfl) rfl)
    (encs := fun x : Nat => #[Value.int .i64 x]) (Kp := Turn (Tl w.heap.size w3.heap.size)) (S := fun ys => ys = (List.range N).filter M) (Sp := fun _ => (List.range N).filter M ≠ []) (N := N) (w0 := w3)
    (fun l J Jx W hW hJ _ hY h0 => those1_in l N (w0.heap.size + 1) (w0.heap.size + 2) 63 #[.pointer (some ⟨w0.heap.size, 0, none⟩)] (.pointer p) M (Tl w.heap.size w3.heap.size) w3 hN (enters_of Try.func63 (by kernel_rfl) rfl)
      (fun k hk W h => hG w0.heap.size k W hk (HB.out W h) (h.cell h2.cell (by unfold Tl; simp only; omega))) h3.cell h4.cell C3 (by unfold Tl; omega) (by unfold Tl; omega) hd3 J Jx hY W hJ
      ((Turn.of_below hW).mono fun k e => .inr e) h0)
    (fun h1 h2 => h1.trans h2 fun _ e => .inl e) (fun W l o o' hl _ _ _ => turn_putObj W l o' (.inr hl)) (Below.refl _ _) (fun _ => rfl)
    (fun pre W => (pre = [] ∧ Boxed W w.heap.size 4 (.bool false)) ∧ Turn (Tl w.heap.size w3.heap.size) w3 W)
    (fun c _ W => (c = .ret ∧ Boxed W w.heap.size 4 (.bool false)) ∧ Turn (Tl w.heap.size w3.heap.size) w3 W)
    (OwnFrom.and (Own.from (box_from w3.heap.size w.heap.size 4 _) _) (fun s X Y row hs hg hr => hs.trans (Turn.of_grown hg fun k e => .inr (hr k e).1) fun _ e => .inl e))
    (fun c => OwnFrom.and (Own.from (box_from' w.heap.size 4 _ c .ret) _) (fun s X Y row hs hg hr => hs.trans (Turn.of_grown hg fun k e => .inr (hr k e).1) fun _ e => .inl e))
    ⟨⟨rfl, bL⟩, Turn.refl _ _⟩
    (fun x => { tmps := #[.pointer p, undef, .pointer (some ⟨w.heap.size, 0, none⟩), .pointer p, .func (.func 59) #[] #[.pointer (some ⟨w0.heap.size + 1, 0, none⟩), .pointer (some ⟨w0.heap.size + 2, 0, none⟩)], .int .i64 x], defers := [] }) ?assign ?body ?done ?stop
  case assign =>
    intro l x W K hK
    gi_wp2
    simpa using hK
  case body =>
    rintro l pre x W ⟨⟨rfl, hv⟩, hT2⟩ hlt
    have hc := hv.cell
    have hf := hv.frozen
    gi_wp2
    exact ⟨(KeepsOthers.setCell _ _ _).from _, ⟨rfl, hv.set _⟩, hT2.trans (Turn.setCell (S := Tl w.heap.size w3.heap.size) _ _ _ (.inl rfl)) fun _ e => .inl e⟩
  case done =>
    rintro D ys W hD hS ⟨⟨rfl, hv⟩, hT2⟩ hK
    have hc := hv.cell
    have hf := hv.frozen
    have hv2 := hv.set (.bool true)
    have hT3 := hT2.trans (Turn.setCell (S := Tl w.heap.size w3.heap.size) W ⟨w.heap.size, 0, none⟩ (.bool true) (.inl rfl)) fun _ e => .inl e
    have hK2 : (W.setCell ⟨w.heap.size, 0, none⟩ (.bool true)).heap[D]? = some (.deferred (some [])) := (Below.heap_setCell W ⟨w.heap.size, 0, none⟩ (.bool true) D (by simp only; omega)).trans hK
    gi_wp2
    refine ⟨by simp, .inl ⟨_, _, rfl, run_takeDeferred hK2, ?_⟩⟩
    refine ⟨_, results_cellb rfl _ _ w.heap.size true rfl (hv2.kept (grownBy_putObj' _ D _) (by simp; omega)), ?_, (HB.out _ hT3).trans (belowK_b (w := w) (Nat.le_refl _) _ D _ _ (by omega) hK2 rfl rfl)⟩
    rw [decide_eq_true (show gapsL N M = [] from hS.symm)]
  case stop =>
    rintro D c pre W hD hS ⟨⟨rfl, hv⟩, hT2⟩ hK
    gi_wp2
    refine ⟨by simp, .inl ⟨_, _, rfl, run_takeDeferred hK, ?_⟩⟩
    refine ⟨_, results_cellb rfl _ _ w.heap.size false rfl (hv.kept (grownBy_putObj' _ D _) (by simp; omega)), ?_, (HB.out _ hT2).trans (belowK_b (w := w) (Nat.le_refl _) _ D _ _ (by omega) hK rfl rfl)⟩
    rw [decide_eq_false (show ¬ gapsL N M = [] from hS)]
section
variable {w : World} {g gc cc gg cg : Nat} {u : Rw}
/-- What is lost of the program's row. -/
def Rw.gone (u : Rw) : List Nat := gapsL u.n fun j => !u.M j
theorem lost_any (H : Sq w g gc cc gg cg u) (hn : u.n ≤ 64) : Calls Try.prog 22 #[.pointer (some ⟨g, 0, none⟩)] w fun e w' => ∃ v, e = .returned v ∧ OwnI w' w.heap.size v u.gone ∧ Below w.heap.size w w' :=
  lost_gen hn H.cn fun _ _ _ hk hW hb => gap_any (H.on hW) hk hb
theorem whole_any (H : Sq w g gc cc gg cg u) (hn : u.n ≤ 64) : Calls Try.prog 35 #[.pointer (some ⟨g, 0, none⟩)] w fun e w' => e = .returned (.bool (decide (u.gone = []))) ∧ Below w.heap.size w w' :=
  whole_gen hn H.cn fun _ _ _ hk hW hb => gap_any (H.on hW) hk hb
end
/-- Of no row, or of a block of zeros, nothing is lost. -/
theorem lost_none {v0 : Value} {w : World} (hC : Cn w v0 0) : Calls Try.prog 22 #[v0] w fun e w' => ∃ v, e = .returned v ∧ OwnI w' w.heap.size v [] ∧ Below w.heap.size w w' :=
  lost_gen (M := fun _ => false) (by omega) hC fun _ _ _ hk _ _ => absurd hk (Nat.not_lt_zero _)
end StM
end Go.Proofs.Ytlbfjnddbdpdpaa
set_option maxRecDepth 100000
namespace Go.Proofs.Ytlbfjnddbdpdpaa
open Go.ChangeShapes Go.WideShapes Go.ChangeAt Go.RowKit Go.Shelf
attribute [local go_sem] GivesE
namespace StM
theorem zsec : (Try.prog.info? 32).map (fun i => (i.zero, i.size, i.bytes)) = some (some (.agg (sec fun _ => 0)), 64, 64) := by kernel_rfl
theorem made_sec (n : Nat) : madeCells (Value.cells (.agg (sec fun _ => 0))) (n * 64) = secs n fun _ _ => 0 := by
  apply Array.ext'
  apply List.ext_getElem?
  intro k
  unfold secs
  rw [Array.getElem?_toList, Array.getElem?_toList, get_row]
  unfold madeCells
  by_cases h : k < n * 64
  · simp only [Value.cells, size_sec, Array.getElem?_map]
    rw [Array.getElem?_range, if_pos h, if_pos h, Option.map_some, getElem!_def, get_sec (Nat.mod_lt _ (by omega))]
  · simp [h, Value.cells]
theorem made_bool (n : Nat) : (madeCells (Value.cells (.bool false)) (n * 1)).toList = bls n fun _ => false := by
  apply List.ext_getElem?
  intro k
  unfold madeCells bls
  by_cases h : k < n
  · simp [h, Value.cells]
    rw [Nat.mod_one]; rfl
  · simp [h, Value.cells]
theorem info_bool : (Try.prog.info? 4).map (fun i => (i.zero, i.size, i.bytes)) = some (some (.bool false), 1, 1) := by kernel_rfl
section
variable {w : World} {a : Act} {dst : Option Tmp} {ty : TypeId} {pos : String} {after : Array Edge} {gd : Option (Nat × Bool)} {R : Value → World → Prop} {x y : Operand} {n : Nat}
theorem gE_mkS (hx : a.eval x = .int .i64 (n : Int)) (hy : a.eval y = .int .i64 (n : Int)) (hn : n ≤ 64) (h : ∀ w', OwnS w' w.heap.size (.slice (some ⟨w.heap.size, 0, none⟩) n n) n (fun _ _ => 0) → Below w.heap.size w w' → R (.slice (some ⟨w.heap.size, 0, none⟩) n n) w') :
    GivesE Try.prog ⟨dst, .makeSlice 53 x y, ty, pos, after, gd⟩ a w R := by
  obtain ⟨i, hi, hz, h1, h2⟩ := info_parts zsec
  obtain ⟨w', hr, ho, hg⟩ := run_makeSlice_full (P := Try.prog) w w.heap.size 53 32 i _ 64 Try.underlying53 hi hz h1 .i64 .i64 n (by omega) (by rw [h2]; omega) (by unfold maxLen; omega) (Nat.le_refl _)
  rw [made_sec] at ho
  unfold GivesE execOp
  simp only [hx, hy, Sem.run_bind, hr, Result.andThen_ok, Sem.run_pure]
  exact h w' ho ⟨hg.os, hg.tape, hg.output, hg.size, fun k hk => hg.block k hk (by intro e; cases e)⟩
theorem gE_mkB (hx : a.eval x = .int .i64 (n : Int)) (hy : a.eval y = .int .i64 (n : Int)) (hn : n ≤ 64) (h : ∀ w', w'.ownsRow w.heap.size 4 1 (.slice (some ⟨w.heap.size, 0, none⟩) n n) n (bls n fun _ => false) → Below w.heap.size w w' → R (.slice (some ⟨w.heap.size, 0, none⟩) n n) w') :
    GivesE Try.prog ⟨dst, .makeSlice 54 x y, ty, pos, after, gd⟩ a w R := by
  obtain ⟨i, hi, hz, h1, h2⟩ := info_parts info_bool
  obtain ⟨w', hr, ho, hg⟩ := run_makeSlice_full (P := Try.prog) w w.heap.size 54 4 i _ 1 undBo hi hz h1 .i64 .i64 n (by omega) (by rw [h2]; omega) (by unfold maxLen; omega) (Nat.le_refl _)
  rw [made_bool] at ho
  unfold GivesE execOp
  simp only [hx, hy, Sem.run_bind, hr, Result.andThen_ok, Sem.run_pure]
  exact h w' ho ⟨hg.os, hg.tape, hg.output, hg.size, fun k hk => hg.block k hk (by intro e; cases e)⟩
end
/-- New columns, and new flags, from block B on. -/
def kS (n B : Nat) : Sp := ⟨fun v => ∃ b c : Nat, v = .slice (some ⟨b, 0, none⟩) n c, fun v w => OwnS w B v n fun _ _ => 0, .slice (some ⟨0, 0, none⟩) n 0⟩
def kB (n B : Nat) : Sp := ⟨fun v => ∃ b c : Nat, v = .slice (some ⟨b, 0, none⟩) n c, fun v w => w.ownsRow B 4 1 v n (bls n fun _ => false), .slice (some ⟨0, 0, none⟩) n 0⟩
theorem kS_ok (n B : Nat) : (kS n B).ok := ⟨⟨0, 0, rfl⟩, fun _ _ _ h hb => OwnS.below h hb (Nat.le_refl _)⟩
theorem row_below {w w' : World} {B C : Nat} {e : TypeId} {size : Nat} {v : Value} {k : Nat} {xs : List Value} (h : w.ownsRow B e size v k xs) (hb : Below C w w') (hC : w.heap.size ≤ C) : w'.ownsRow B e size v k xs :=
  World.ownsRow.kept (row := none) h ⟨hb.os, hb.tape, hb.output, hb.size, fun i hi _ => hb.block i (by omega)⟩ (by
    rcases h.2 with ⟨e, _⟩ | ⟨g', _, _, e, _⟩
    · exact .inl (by rw [e]; rfl)
    · exact .inr (by rw [e]; simp [Value.ownBlock]))
theorem kB_ok (n B : Nat) : (kB n B).ok := ⟨⟨0, 0, rfl⟩, fun _ _ _ h hb => row_below h hb (Nat.le_refl _)⟩
theorem new_bad (c : Int) (h : c < 4 ∨ 64 < c) (w : World) : Calls Try.prog 8 #[.int .i64 c] w fun e w' => e = .returned (.tuple #[.pointer none, .int .i64 2]) ∧ w = w' := by
  rcases Int.lt_or_le c 4 with h4 | h4
  · clear h
    go_enter Try.func8, Try.ntmps8
    go_wp2_with fail
    go_ret2
    exact ⟨rfl, rfl⟩
  · have h6 : 64 < c := by omega
    clear h
    go_enter Try.func8, Try.ntmps8
    go_wp2_with fail
    go_ret2
    exact ⟨rfl, rfl⟩
/-- What New answers: a new row. -/
def NewS (w : World) (n : Nat) (e : Ending) (w' : World) : Prop :=
  ∃ g gc cc gg cg, e = .returned (.tuple #[.pointer (some ⟨g, 0, none⟩), .int .i64 0]) ∧ Sq w' g gc cc gg cg ⟨n, fun _ _ => 0, fun _ => false⟩ ∧ w.heap.size ≤ g ∧ w.heap.size ≤ gc ∧ w.heap.size ≤ gg ∧ Below w.heap.size w w'
set_option maxHeartbeats 1000000 in
theorem new_any (n : Nat) (h4 : 4 ≤ n) (h64 : n ≤ 64) (w : World) : Calls Try.prog 8 #[.int .i64 n] w (NewS w n) := by
  have t4 : (4 : Int) ≤ n := by omega
  have t6 : (n : Int) ≤ 64 := by omega
  have d4 : decide ((n : Int) < 4) = false := decide_eq_false (by omega)
  have d6 : decide ((64 : Int) < n) = false := decide_eq_false (by omega)
  go_enter Try.func8, Try.ntmps8
  go_wp2_with fail
  refine wp_region_y [some (.int .i64 n), none, some (.int .i64 n)] [(1, kS n w.heap.size), (3, kB n w.heap.size)] (fun y hy => by simp only [List.mem_cons, List.not_mem_nil, or_false] at hy; rcases hy with rfl | rfl; exact kS_ok _ _; exact kB_ok _ _) 4 (by kernel_rfl) (by kernel_rfl) (by kernel_rfl) fun vs => ?_
  simp only [List.take_succ_cons, List.take_zero, List.drop_succ_cons, List.drop_zero]
  refine ⟨.inl ⟨rfl, fun dd w' hd hC hDs => ?_⟩, fun e => ?_⟩
  · go_simp
    first | exact ⟨rfl, hC, Below.refl _ _, trivial⟩ | exact ⟨rfl, Below.refl _ _, trivial⟩ | exact ⟨hC, Below.refl _ _, trivial⟩
  have e' : vs 0 = _ := e
  rw [e']
  clear e e'
  simp only [Act.put, List.setIfInBounds_toArray, List.set_cons_succ, List.set_cons_zero]
  refine ⟨.inl ⟨rfl, fun dd w' hd hC hDs => ?_⟩, fun e => ?_⟩
  · exact gE_mkS rfl rfl h64 fun w2 o2 h2 => ⟨⟨_, _, rfl⟩, hC.trans (h2.mono hC.size), h2, yD_some rfl (row_low o2 hC.size)⟩
  obtain ⟨b1, c1, e'⟩ : ∃ b c : Nat, vs 1 = .slice (some ⟨b, 0, none⟩) n c := e
  rw [e']
  have E1 := hid e'
  clear e'
  simp only [Act.put, List.setIfInBounds_toArray, List.set_cons_succ, List.set_cons_zero]
  refine ⟨.inl ⟨rfl, fun dd w' hd hC hDs => ?_⟩, fun e => ?_⟩
  · go_simp
    first | exact ⟨rfl, hC, Below.refl _ _, trivial⟩ | exact ⟨rfl, Below.refl _ _, trivial⟩ | exact ⟨hC, Below.refl _ _, trivial⟩
  have e' : vs 2 = _ := e
  rw [e']
  clear e e'
  simp only [Act.put, List.setIfInBounds_toArray, List.set_cons_succ, List.set_cons_zero]
  refine ⟨.inl ⟨rfl, fun dd w' hd hC hDs => ?_⟩, fun e => ?_⟩
  · exact gE_mkB rfl rfl h64 fun w2 o2 h2 => ⟨⟨_, _, rfl⟩, hC.trans (h2.mono hC.size), h2, yD_some rfl (row_low o2 hC.size)⟩
  obtain ⟨b3, c3, e'⟩ : ∃ b c : Nat, vs 3 = .slice (some ⟨b, 0, none⟩) n c := e
  rw [e']
  have E3 := hid e'
  clear e'
  simp only [Act.put, List.setIfInBounds_toArray, List.set_cons_succ, List.set_cons_zero]
  intro d w2 hd hb hD
  have D1 : OwnS w2 w.heap.size (.slice (some ⟨b1, 0, none⟩) n c1) n fun _ _ => 0 := by rw [← E1.out]; exact hD 1 (by omega)
  have D3 : w2.ownsRow w.heap.size 4 1 (.slice (some ⟨b3, 0, none⟩) n c3) n (bls n fun _ => false) := by rw [← E3.out]; exact hD 3 (by omega)
  have O1 := hid D1
  have O3 := hid D3
  have HB := hid hb
  clear hD D1 D3 E1 E3 hb hd
  go_wp2_with fail
  go_ret2
  have ha : Below w2.heap.size w2 (w2.alloc (.cells #[.slice (some ⟨b1, 0, none⟩) n c1, .slice (some ⟨b3, 0, none⟩) n c3] tyP)) := (Below.refl _ _).alloc (Nat.le_refl _) _
  exact ⟨w2.heap.size, b1, c1, b3, c3, rfl, ⟨Blk.top rfl rfl, row_low (OwnS.below O1.out ha (Nat.le_refl _)) (Nat.zero_le _), row_low (row_below O3.out ha (Nat.le_refl _)) (Nat.zero_le _)⟩, HB.out.size, (own_lt O1.out).2.1, (World.ownsRow.lt O3.out b3 rfl).1, HB.out.trans (ha.mono HB.out.size)⟩
section
variable {w : World} {g gc cc gg cg : Nat} {u : Rw}
set_option maxHeartbeats 400000 in
theorem right_st (H : Sq w g gc cc gg cg u) (h4 : 4 ≤ u.n) (hn : u.n ≤ 64) (hF : ∀ i k, u.F i k < 256) : Calls Try.prog 24 #[.pointer (some ⟨g, 0, none⟩)] w fun e w' => e = .returned (.bool (decide (u.gone = []) && rightA u.n u.F)) ∧ Below w.heap.size w w' := by
  have HH := hid H
  clear H
  have hm := hid (made_any' HH.out.cn)
  rw [decide_eq_true (show 0 < u.n by omega)] at hm
  have hw := hid (whole_any HH.out hn)
  by_cases hg : u.gone = []
  · rw [decide_eq_true hg] at hw ⊢
    rw [Bool.true_and]
    clear hg
    go_enter Try.func24, Try.ntmps24
    go_wp2_with fail
    refine hm.out.mono ?_
    rintro e w1 ⟨rfl, rfl⟩
    go_wp2_with fail
    refine hw.out.mono ?_
    rintro e w1 ⟨rfl, h1⟩
    have B1 := hid h1
    have H1 := hid (HH.out.on h1)
    clear h1
    have q0 := H1.out.q0
    go_wp2_with fail
    refine (right_any (some ⟨gc, 0, none⟩) u.n cc u.F hF (by omega) H1.out.cc' _ H1.out.secs).mono ?_
    rintro e w2 ⟨rfl, h2⟩
    have B2 := hid (B1.out.trans (h2.mono B1.out.size))
    clear h2
    go_wp2_with fail
    go_ret
    exact ⟨rfl, B2.out⟩
  · rw [decide_eq_false hg] at hw ⊢
    rw [Bool.false_and]
    clear hg
    go_enter Try.func24, Try.ntmps24
    go_wp2_with fail
    refine hm.out.mono ?_
    rintro e w1 ⟨rfl, rfl⟩
    go_wp2_with fail
    refine hw.out.mono ?_
    rintro e w1 ⟨rfl, h1⟩
    have B1 := hid h1
    clear h1
    go_wp2_with fail
    go_ret
    exact ⟨rfl, B1.out⟩
/-- No row, or a block of zeros, is right. -/
theorem right_none {v0 : Value} {w : World} (hC : Cn w v0 0) : Calls Try.prog 24 #[v0] w fun e w' => e = .returned (.bool false) ∧ w = w' := by
  have hm := hid (made_any' hC)
  rw [decide_eq_false (show ¬ 0 < 0 by omega)] at hm
  go_enter Try.func24, Try.ntmps24
  go_wp2_with fail
  refine hm.out.mono ?_
  rintro e w1 ⟨rfl, rfl⟩
  go_wp2_with fail
  go_ret
  exact ⟨rfl, rfl⟩
end
end StM
end Go.Proofs.Ytlbfjnddbdpdpaa
set_option maxRecDepth 100000
namespace Go.Proofs.Ytlbfjnddbdpdpaa
open Go.ChangeShapes Go.WideShapes Go.ChangeAt Go.RowKit
attribute [local go_sem] Gives
namespace StM
section
variable {w : World} {g gc cc gg cg : Nat} {s : Rw}
set_option maxHeartbeats 400000 in
theorem rlost_any (H : Rq w g gc cc gg cg s) (hn : s.n ≤ 64) : Calls Try.prog 23 #[.pointer (some ⟨g, 0, none⟩)] w fun e w' => ∃ v, e = .returned v ∧ OwnI w' w.heap.size v s.lost ∧ Below w.heap.size w w' := by
  have HH := hid H
  clear H
  unfold Rw.lost
  go_enter Try.func23, Try.ntmps23
  go_wp2_with fail
  go_loopw [3, 4] (fun u3 u4 wr => ∃ k : Nat, u4 = .int .i64 k ∧ k ≤ s.n ∧ Hid (OwnI wr w.heap.size u3 (gapsL k s.M)) ∧ Hid (Below w.heap.size w wr)) (fun _ u4 _ => s.n - (intOf u4).toNat)
  case atStart => exact ⟨0, rfl, Nat.zero_le _, hid (World.ownsRow_nil _ _ _ _), hid (Below.refl _ _)⟩
  case round =>
    obtain ⟨k, rfl, hk, HO, HB⟩ := hrel
    have HR := hid (HH.out.on HB.out)
    have q1 := HR.out.q1
    by_cases hgo : k < s.n
    · have t1 : (k : Int) < s.n := by omega
      have q2 := HR.out.at' hgo
      cases hm : s.M k
      · have hn := hid (gapsL_no hm)
        rw [hm] at q2
        clear hm
        go_wp2_with fail
        go_roundw
        case rel => exact ⟨k + 1, by go_num, by omega, by rw [hn.out]; exact HO, HB⟩
        case measure => simp [intOf] <;> omega
      · have hn := hid (gapsL_yes hm)
        have hl := hid (Nat.le_trans (gapsL_le k s.M) (show k ≤ 1000 by omega))
        rw [hm] at q2
        clear hm
        go_wp2_with ((with_reducible apply wappi (y := k)); rfl; rfl; exact World.ownsRow.alloc HO.out _; simp; exact hl.out; (have := HB.out.size; simp; omega); intro v' w5 o5 g5; have O5 := hid o5; have B5 := hid (show Below w.heap.size w w5 from (HB.out.alloc HB.out.size _).grown g5 (by have := HB.out.size; simp; omega) fun x e => (HO.out.lt x e).1); clear o5 g5)
        go_roundw
        case rel => exact ⟨k + 1, by go_num, by omega, by rw [hn.out]; exact O5, B5⟩
        case measure => simp [intOf] <;> omega
    · have t1 : ¬ (k : Int) < s.n := by omega
      have hkn := hid (show s.n = k by omega)
      go_wp2_with fail
      go_ret
      exact ⟨_, rfl, by rw [hkn.out]; exact HO.out, HB.out⟩
set_option maxHeartbeats 400000 in
theorem rright_st (H : Rq w g gc cc gg cg s) (hk : s.ok) : Calls Try.prog 25 #[.pointer (some ⟨g, 0, none⟩)] w fun e w' => e = .returned (.bool s.right) ∧ Below w.heap.size w w' := by
  have HH := hid H
  have hn := hk.hi
  have HK := hid hk
  clear H hk
  obtain ⟨q, hq⟩ : ∃ q, q = s.right := ⟨_, rfl⟩
  have HQ := hid hq
  rw [← hq]
  clear hq
  go_enter Try.func25, Try.ntmps25
  go_wp2_with fail
  refine (rlost_any HH.out hn).mono ?_
  rintro e w1 ⟨v, rfl, ho, h1⟩
  obtain ⟨A, c, rfl⟩ := OwnI.len ho
  have H1 := hid (HH.out.on h1)
  have B1 := hid h1
  clear ho h1
  have q0 := H1.out.q0
  have hl2 := hid (gapsL_le s.n s.M)
  by_cases hl : s.lost.length = 0
  · have hr := hid (show s.right = rightA s.n s.F by
      unfold Rw.right
      rw [decide_eq_true (List.eq_nil_of_length_eq_zero hl), Bool.true_and])
    rw [hl]
    clear hl
    go_wp2_with fail
    refine (rright_any (some ⟨gc, 0, none⟩) s.n cc s.F HK.out.by' (by omega) H1.out.cc' _ H1.out.secs).mono ?_
    rintro e w2 ⟨rfl, h2⟩
    have B2 := hid (B1.out.trans (h2.mono B1.out.size))
    clear h2
    go_wp2_with fail
    go_ret
    exact ⟨by rw [HQ.out, hr.out]; rfl, B2.out⟩
  · have hr := hid (show s.right = false by
      unfold Rw.right
      rw [decide_eq_false fun e => hl (by rw [e]; rfl), Bool.false_and])
    obtain ⟨k, hk⟩ : ∃ k, k = s.lost.length := ⟨_, rfl⟩
    rw [← hk]
    have t1 : (((k : Nat) : Int) == 0) = false := by rw [beq_eq_false_iff_ne]; omega
    clear hl hk
    go_wp2_with fail
    go_ret
    exact ⟨by rw [HQ.out, hr.out]; rfl, B1.out⟩
/-- Two lists of ints of one's own, compared. -/
theorem rints_any {B1 B2 : Nat} {A1 A2 : Option Addr} {c1 c2 : Nat} {l1 l2 : List Nat} (h1 : OwnI w B1 (.slice A1 l1.length c1) l1) (h2 : OwnI w B2 (.slice A2 l2.length c2) l2) (hl1 : l1.length ≤ 1000) (hl2 : l2.length ≤ 1000) :
    Calls Try.prog 17 #[.slice A1 l1.length c1, .slice A2 l2.length c2] w fun e w' => e = .returned (.bool (decide (l1 = l2))) ∧ Below w.heap.size w w' := by
  have HO1 := hid h1
  have HO2 := hid h2
  clear h1 h2
  obtain ⟨q, hq⟩ : ∃ q, q = decide (l1 = l2) := ⟨_, rfl⟩
  have HQ := hid hq
  rw [← hq]
  clear hq
  by_cases hlen : l1.length = l2.length
  · obtain ⟨n, hn⟩ : ∃ n, n = l1.length := ⟨_, rfl⟩
    have L1 := hid hn
    have L2 := hid (hn.trans hlen)
    rw [← hlen, ← hn]
    rw [← hn] at hl1
    have hgap := hid (show (∀ i, i < n → l1.getD i 0 = l2.getD i 0) → l1 = l2 from fun h => List.ext_getElem? fun i => by
      by_cases hi : i < n
      · have := h i hi
        rw [List.getD_eq_getElem?_getD, List.getD_eq_getElem?_getD, List.getElem?_eq_getElem (by omega), List.getElem?_eq_getElem (by omega), Option.getD_some, Option.getD_some] at this
        rw [List.getElem?_eq_getElem (by omega), List.getElem?_eq_getElem (by omega), this]
      · rw [List.getElem?_eq_none (by omega), List.getElem?_eq_none (by omega)])
    clear hn hlen hl2
    go_enter Try.func17, Try.ntmps17
    go_wp2_with fail
    go_loopw [5] (fun u wr => ∃ k : Nat, u = .int .i64 k ∧ k ≤ n ∧ Hid (Below w.heap.size w wr) ∧ Hid (∀ i, i < k → l1.getD i 0 = l2.getD i 0)) (fun u _ => n - (intOf u).toNat)
    case atStart => exact ⟨0, rfl, Nat.zero_le _, hid (Below.refl _ _), hid fun i hi => absurd hi (Nat.not_lt_zero _)⟩
    case round =>
      obtain ⟨k, rfl, hk, HB, HM⟩ := hrel
      by_cases hgo : k < n
      · have t1 : (k : Int) < n := by omega
        obtain ⟨g1, c1', e1, r1⟩ := OwnI.get (HO1.out) (j := k) (by rw [← L1.out]; exact hgo)
        obtain ⟨g2, c2', e2, r2⟩ := OwnI.get (HO2.out) (j := k) (by rw [← L2.out]; exact hgo)
        simp only [Value.slice.injEq] at e1 e2
        obtain ⟨rfl, _, rfl⟩ := e1
        obtain ⟨rfl, _, rfl⟩ := e2
        have k1 := r1 k (by rw [← L1.out]; exact hgo)
        have k2 := r2 k (by rw [← L2.out]; exact hgo)
        obtain ⟨x, hx⟩ : ∃ x, x = l1.getD k 0 := ⟨_, rfl⟩
        obtain ⟨y, hy⟩ : ∃ y, y = l2.getD k 0 := ⟨_, rfl⟩
        rw [← hx] at k1
        rw [← hy] at k2
        have K1 := hid (show ∀ w', Below w.heap.size w w' → w'.cell? ⟨g1, k, none⟩ = some (.int .i64 x) from fun w' h => (h.cell (p := ⟨g1, k, none⟩) (World.block_lt_of_cell? w _ k1)).trans k1)
        have K2 := hid (show ∀ w', Below w.heap.size w w' → w'.cell? ⟨g2, k, none⟩ = some (.int .i64 y) from fun w' h => (h.cell (p := ⟨g2, k, none⟩) (World.block_lt_of_cell? w _ k2)).trans k2)
        have X := hid hx
        have Y := hid hy
        clear r1 r2 k1 k2 hx hy
        go_wp2_with fail
        refine wp_region_tail (C := fun w' => Below w.heap.size w w') 9 (by kernel_rfl) (by kernel_rfl) (by kernel_rfl) HB.out.drew ?_
        simp only [List.take_succ_cons, List.take_zero, List.drop_succ_cons, List.drop_zero]
        apply wpK_val
        · rfl
        · intro w' hw'
          go_simp
          first | exact rfl | exact ⟨rfl, hw'⟩
        simp only [Act.put, List.setIfInBounds_toArray, List.set_cons_succ, List.set_cons_zero]
        apply wpK_val
        · rfl
        · intro w' hw'
          go_simp
          first | exact rfl | exact ⟨rfl, hw'⟩
        simp only [Act.put, List.setIfInBounds_toArray, List.set_cons_succ, List.set_cons_zero]
        apply wpK_val
        · rfl
        · intro w' hw'
          go_simp
          first | exact rfl | exact ⟨rfl, hw'⟩
        simp only [Act.put, List.setIfInBounds_toArray, List.set_cons_succ, List.set_cons_zero]
        apply wpK_val
        · rfl
        · intro w' hw'
          have hcell := K1.out w' hw'
          go_simp
          first | exact rfl | exact ⟨rfl, hw'⟩
        simp only [Act.put, List.setIfInBounds_toArray, List.set_cons_succ, List.set_cons_zero]
        apply wpK_val
        · rfl
        · intro w' hw'
          go_simp
          first | exact rfl | exact ⟨rfl, hw'⟩
        simp only [Act.put, List.setIfInBounds_toArray, List.set_cons_succ, List.set_cons_zero]
        apply wpK_val
        · rfl
        · intro w' hw'
          go_simp
          first | exact rfl | exact ⟨rfl, hw'⟩
        simp only [Act.put, List.setIfInBounds_toArray, List.set_cons_succ, List.set_cons_zero]
        apply wpK_val
        · rfl
        · intro w' hw'
          go_simp
          first | exact rfl | exact ⟨rfl, hw'⟩
        simp only [Act.put, List.setIfInBounds_toArray, List.set_cons_succ, List.set_cons_zero]
        apply wpK_val
        · rfl
        · intro w' hw'
          have hcell := K2.out w' hw'
          go_simp
          first | exact rfl | exact ⟨rfl, hw'⟩
        simp only [Act.put, List.setIfInBounds_toArray, List.set_cons_succ, List.set_cons_zero]
        by_cases hxy : x = y
        · have t2 : ((x : Int) != (y : Int)) = false := by rw [hxy]; simp
          have T2 := hid t2
          have XY := hid hxy
          clear t2 hxy
          apply wpK_val
          · rfl
          · intro w' hw'
            have h1 : _ = _ := T2.out
            go_simp
            first | exact rfl | exact ⟨rfl, hw'⟩
          simp only [Act.put, List.setIfInBounds_toArray, List.set_cons_succ, List.set_cons_zero]
          refine wpK_nil fun w2 hw2 => ?_
          have B2 := hid hw2
          clear hw2
          go_wp2_with fail
          go_roundw
          case rel =>
            refine ⟨k + 1, by go_num, by omega, B2, hid fun i hi => ?_⟩
            by_cases e : i = k
            · rw [e, ← X.out, ← Y.out, XY.out]
            · exact HM.out i (by omega)
          case measure => simp [intOf] <;> omega
        · have t2 : ((x : Int) != (y : Int)) = true := by rw [bne_iff_ne]; omega
          have hf := hid (show decide (l1 = l2) = false from decide_eq_false fun e => hxy (by rw [X.out, Y.out, e]))
          have T2 := hid t2
          clear t2 hxy
          apply wpK_val
          · rfl
          · intro w' hw'
            have h1 : _ = _ := T2.out
            go_simp
            first | exact rfl | exact ⟨rfl, hw'⟩
          simp only [Act.put, List.setIfInBounds_toArray, List.set_cons_succ, List.set_cons_zero]
          refine wpK_nil fun w2 hw2 => ?_
          have B2 := hid hw2
          clear hw2
          go_wp2_with fail
          go_ret
          exact ⟨by rw [HQ.out, hf.out]; rfl, B2.out⟩
      · have t1 : ¬ (k : Int) < n := by omega
        have hkn := hid (show n = k by omega)
        have hf := hid (show decide (l1 = l2) = true from decide_eq_true (hgap.out fun i hi => HM.out i (by rw [hkn.out] at hi; exact hi)))
        go_wp2_with fail
        go_ret
        exact ⟨by rw [HQ.out, hf.out]; rfl, HB.out⟩
  · have hf := hid (show decide (l1 = l2) = false from decide_eq_false fun e => hlen (by rw [e]))
    have t1 : (((l1.length : Nat) : Int) != ((l2.length : Nat) : Int)) = true := by rw [bne_iff_ne]; omega
    have t2 : ¬ l1.length = l2.length := hlen
    go_enter Try.func17, Try.ntmps17
    go_wp2_with fail
    go_ret
    exact ⟨by rw [HQ.out, hf.out]; rfl, Below.refl _ _⟩
end
end StM
end Go.Proofs.Ytlbfjnddbdpdpaa
set_option maxRecDepth 100000
namespace Go.Proofs.Ytlbfjnddbdpdpaa
open Go.ChangeShapes Go.WideShapes Go.ChangeAt Go.RowKit
attribute [local go_sem] Gives
namespace StM
/-- A new row while its columns come. -/
structure Nq (w : World) (B g : Nat) (vc vg : Value) (k l : Nat) : Prop where
  blk : Blk w g tyQ #[vc, vg]
  cols : OwnS w B vc k fun _ _ => 0
  gone : OwnX 4 1 boL w B vg (List.replicate l true)
theorem secs_one' {w : World} {g : Nat} {f : Nat → Nat} (h : Blk w g 32 (secL f).toArray) : Secs w (g + 1) (some ⟨g, 0, none⟩) 1 fun _ => f := fun _ =>
  ⟨g, 0, rfl, Nat.lt_succ_self _, fun i hi => by
    have : i = 0 := by omega
    subst this
    intro j v hj
    simp only [Nat.zero_mul, Nat.zero_add]
    rw [h.cell]
    simpa [secL] using hj⟩
theorem ty1 : tyQ ≠ 32 := by decide
section
variable {w w' : World} {B g k l : Nat} {vc vg : Value}
theorem Nq.ne1 (H : Nq w B g vc vg k l) : vc.ownBlock ≠ some g := by
  rcases H.cols.2 with ⟨rfl, _⟩ | ⟨g', cap, cur, rfl, _, hg, _⟩
  · intro e; cases e
  · intro e
    have e2 : g' = g := by simpa [Value.ownBlock] using e
    subst e2
    exact ty1 (Blk.ty H.blk (show Blk w g' 32 cur from hg))
theorem Nq.ne2 (H : Nq w B g vc vg k l) : vg.ownBlock ≠ some g := by
  rcases H.gone.2 with ⟨rfl, _⟩ | ⟨g', cap, cur, rfl, _, hg, _⟩
  · intro e; cases e
  · intro e
    have e2 : g' = g := by simpa [Value.ownBlock] using e
    subst e2
    exact absurd (Blk.ty H.blk (show Blk w g' 4 cur from hg)) (by decide)
theorem Nq.ne3 (H : Nq w B g vc vg k l) : ∀ b, vc.ownBlock = some b → vg.ownBlock ≠ some b := fun b e e' => by
  rcases H.gone.2 with ⟨rfl, _⟩ | ⟨g', cap, cur, rfl, _, hg, _⟩
  · cases e'
  rcases H.cols.2 with ⟨rfl, _⟩ | ⟨g2, cap2, cur2, rfl, _, hg2, _⟩
  · cases e
  have e1 : g' = b := by simpa [Value.ownBlock] using e'
  have e2 : g2 = b := by simpa [Value.ownBlock] using e
  subst e1 e2
  exact absurd (Blk.ty (show Blk w g2 4 cur from hg) (show Blk w g2 32 cur2 from hg2)) (by decide)
theorem Nq.on (H : Nq w B g vc vg k l) (hb : Below w.heap.size w w') : Nq w' B g vc vg k l :=
  ⟨H.blk.below hb H.blk.lt, ownS_turn H.cols (Turn.of_new (S := fun _ => False) hb) fun _ _ e => e, H.gone.turn (Turn.of_new (S := fun _ => False) hb) fun _ _ e => e⟩
theorem Nq.app1 {w5 : World} {v5 : Value} (H : Nq w B g vc vg k l) (o : OwnS w5 B v5 (k + 1) (catF k (fun _ _ => 0) fun _ _ => 0)) (hg : w.grownBy w5 vc.ownBlock) :
    w5.cell? ⟨g, 0, none⟩ = some vc ∧ w5.frozen? ⟨g, 0, none⟩ = false ∧ Nq (w5.setCell ⟨g, 0, none⟩ v5) B g v5 vg (k + 1) l := by
  have b5 : Blk w5 g tyQ #[vc, vg] := (hg.block g H.blk.lt fun e => H.ne1 e.symm).trans H.blk
  have x5 : OwnX 4 1 boL w5 B vg (List.replicate l true) := H.gone.turn (Turn.of_grown (S := fun b => vc.ownBlock = some b) hg fun b e => e) fun b e e' => H.ne3 b e' e
  have hne : v5.ownBlock ≠ some g := by
    rcases o.2 with ⟨rfl, _⟩ | ⟨g', cap, cur, rfl, _, hg', _⟩
    · intro e; cases e
    · intro e
      have e2 : g' = g := by simpa [Value.ownBlock] using e
      subst e2
      exact ty1 (Blk.ty b5 (show Blk w5 g' 32 cur from hg'))
  have ht := Turn.setCell (S := fun b => b = g) w5 ⟨g, 0, none⟩ v5 rfl
  refine ⟨b5.cell 0, b5.frozen 0, b5.setCell_same 0 v5, ?_, x5.turn ht fun b e e' => ?_⟩
  · exact (ownS_turn o ht fun b e e' => hne (e' ▸ e)).mono fun i j _ _ => by unfold catF; split <;> rfl
  · subst e'
    rcases x5.2 with ⟨rfl, _⟩ | ⟨g', cap, cur, rfl, _, hg', _⟩
    · cases e
    · have e2 : g' = b := by simpa [Value.ownBlock] using e
      subst e2
      exact absurd (Blk.ty b5 (show Blk w5 g' 4 cur from hg')) (by decide)
theorem Nq.app2 {w5 : World} {v5 : Value} (H : Nq w B g vc vg k l) (o : OwnX 4 1 boL w5 B v5 (List.replicate (l + 1) true)) (hg : w.grownBy w5 vg.ownBlock) :
    w5.cell? ⟨g, 1, none⟩ = some vg ∧ w5.frozen? ⟨g, 1, none⟩ = false ∧ Nq (w5.setCell ⟨g, 1, none⟩ v5) B g vc v5 k (l + 1) := by
  have b5 : Blk w5 g tyQ #[vc, vg] := (hg.block g H.blk.lt fun e => H.ne2 e.symm).trans H.blk
  have x5 : OwnS w5 B vc k fun _ _ => 0 := ownS_turn H.cols (Turn.of_grown (S := fun b => vg.ownBlock = some b) hg fun b e => e) fun b e e' => H.ne3 b e e'
  have ht := Turn.setCell (S := fun b => b = g) w5 ⟨g, 1, none⟩ v5 rfl
  refine ⟨b5.cell 1, b5.frozen 1, b5.setCell_same 1 v5, ownS_turn x5 ht fun b e e' => ?_, o.turn ht fun b e e' => ?_⟩
  · subst e'
    rcases x5.2 with ⟨rfl, _⟩ | ⟨g', cap, cur, rfl, _, hg', _⟩
    · cases e
    · have e2 : g' = b := by simpa [Value.ownBlock] using e
      subst e2
      exact ty1 (Blk.ty b5 (show Blk w5 g' 32 cur from hg'))
  · subst e'
    rcases o.2 with ⟨rfl, _⟩ | ⟨g', cap, cur, rfl, _, hg', _⟩
    · cases e
    · have e2 : g' = b := by simpa [Value.ownBlock] using e
      subst e2
      exact absurd (Blk.ty b5 (show Blk w5 g' 4 cur from hg')) (by decide)
end
theorem rep_true (n : Nat) : List.replicate n true = (List.range n).map fun j => decide (j < n) := by
  apply List.ext_getElem?
  intro i
  rw [List.getElem?_replicate, List.getElem?_map]
  by_cases h : i < n
  · rw [if_pos h, List.getElem?_range h]
    simp [h]
  · rw [if_neg h, List.getElem?_eq_none (by simp; omega)]
    rfl
theorem rnew_bad (c : Int) (h : c < 4 ∨ 64 < c) (w : World) : Calls Try.prog 9 #[.int .i64 c] w fun e w' => e = .returned (.tuple #[.pointer none, .int .i64 2]) ∧ w = w' := by
  rcases Int.lt_or_le c 4 with h4 | h4
  · clear h
    go_enter Try.func9, Try.ntmps9
    go_wp2_with fail
    go_ret2
    exact ⟨rfl, rfl⟩
  · have h6 : 64 < c := by omega
    clear h
    go_enter Try.func9, Try.ntmps9
    go_wp2_with fail
    go_ret2
    exact ⟨rfl, rfl⟩
theorem own_some {w : World} {B : Nat} {v : Value} {k : Nat} (h : OwnX 4 1 boL w B v (List.replicate (k + 1) true)) : ∃ g c, v = .slice (some ⟨g, 0, none⟩) (k + 1) c ∧ B ≤ g := by
  rcases h.2 with ⟨_, h0⟩ | ⟨g, cap, cur, rfl, hb, _⟩
  · rw [List.length_replicate] at h0; omega
  · exact ⟨g, cap, by rw [List.length_replicate], hb⟩
/-- What New answers: a new row. -/
def NewOut (w : World) (n : Nat) (e : Ending) (w' : World) : Prop :=
  ∃ g gc cc gg cg, e = .returned (.tuple #[.pointer (some ⟨g, 0, none⟩), .int .i64 0]) ∧ Rq w' g gc cc gg cg (made n) ∧ w.heap.size ≤ g ∧ w.heap.size ≤ gc ∧ w.heap.size ≤ gg ∧ Below w.heap.size w w'
set_option maxHeartbeats 1000000 in
theorem rnew_any (n : Nat) (h4 : 4 ≤ n) (h64 : n ≤ 64) (w : World) : Calls Try.prog 9 #[.int .i64 n] w (NewOut w n) := by
  have t4 : (4 : Int) ≤ n := by omega
  have t6 : (n : Int) ≤ 64 := by omega
  have d4 : decide ((n : Int) < 4) = false := decide_eq_false (by omega)
  have d6 : decide ((64 : Int) < n) = false := decide_eq_false (by omega)
  go_enter Try.func9, Try.ntmps9
  go_wp2_with fail
  have N0 := hid (show Nq (w.alloc (.cells #[.slice none 0 0, .slice none 0 0] tyQ)) w.heap.size w.heap.size (.slice none 0 0) (.slice none 0 0) 0 0 from ⟨Blk.new _ _ _, World.ownsRow_nil _ _ _ _, OwnX.nil _ _ _ _ _⟩)
  have B0 := hid (show Below w.heap.size w (w.alloc (.cells #[.slice none 0 0, .slice none 0 0] tyQ)) from (Below.refl _ _).alloc (Nat.le_refl _) _)
  go_loopw [5] (fun u wr => ∃ (k : Nat) (vc vg : Value), u = .int .i64 k ∧ k ≤ n ∧ Hid (Nq wr w.heap.size w.heap.size vc vg k k) ∧ Hid (Below w.heap.size w wr)) (fun u _ => n - (intOf u).toNat)
  case atStart => exact ⟨0, _, _, rfl, Nat.zero_le _, N0, B0⟩
  case round =>
    obtain ⟨k, vc, vg, rfl, hk, HN, HB⟩ := hrel
    by_cases hgo : k < n
    · have t1 : (k : Int) < n := by omega
      have q0 : wr.cell? ⟨w.heap.size, 0, none⟩ = some vc := HN.out.blk.cell 0
      have HN1 := hid (HN.out.on ((Below.refl _ _).alloc (Nat.le_refl _) (.cells (secL fun _ => 0).toArray 32)))
      have HB1 := hid (HB.out.alloc HB.out.size (.cells (secL fun _ => 0).toArray 32))
      go_upto_region 8 with (first | (with_reducible apply bsec) | ((with_reducible apply wlit1 eltSe undSe (x := fun _ => 0)); omega; rfl; rfl) | ((with_reducible apply wapp (n := k) (m := 1)); rfl; rfl; exact HN1.out.cols; exact secs_one' (Blk.new _ _ _); omega; exact HB1.out.size; intro v5 w5 o5 g5 n5; (obtain ⟨gc5, cap5, rfl, hb5, hl5, hc5, hr5⟩ := o5.form fun e => by have := (n5.1 e).2; omega); obtain ⟨q5, f5, n6⟩ := HN1.out.app1 o5 g5; have N6 := hid n6; have B6 := hid ((HB1.out.grown g5 HB1.out.size fun x e => (World.ownsRow.lt HN1.out.cols x e).1).setCell (p := ⟨w.heap.size, 0, none⟩) (Nat.le_refl _) (.slice (some ⟨gc5, 0, none⟩) (k + 1) cap5)); clear n5 hb5 hl5 hc5 hr5 o5 g5 n6))
      generalize hw6 : World.setCell w5 _ _ = w6 at N6 B6 ⊢
      have q1 : w6.cell? ⟨w.heap.size, 1, none⟩ = some vg := N6.out.blk.cell 1
      clear q0 q5 f5 hw6 HN1 HB1
      have HN7 := hid (N6.out.on ((Below.refl _ _).alloc (Nat.le_refl _) (.cells (boL true).toArray 4)))
      have HB7 := hid (B6.out.alloc B6.out.size (.cells (boL true).toArray 4))
      go_wp2_with (first | ((with_reducible apply wlit1 eltBo undBo (x := true)); omega; rfl; rfl) | ((with_reducible apply wappX eltBo undBo (n := 1) (cap := 1) (l := List.replicate k true) (m := [true]) (B := w.heap.size)); rfl; rfl; exact HN7.out.gone; exact sli_lit1 (S := fun _ => True) eltBo true w6 trivial; (simp; omega); omega; exact HB7.out.size; intro v8 w8 o8 g8; have o9 : OwnX 4 1 boL w8 w.heap.size v8 (List.replicate (k + 1) true) := (by rw [List.replicate_succ']; exact o8); (obtain ⟨gg8, cg8, rfl, hb8⟩ := own_some o9); obtain ⟨q8, f8, n9⟩ := HN7.out.app2 o9 g8; have N9 := hid n9; have B9 := hid ((HB7.out.grown g8 HB7.out.size fun x e => (OwnX.own HN7.out.gone x e).1).setCell (p := ⟨w.heap.size, 1, none⟩) (Nat.le_refl _) (.slice (some ⟨gg8, 0, none⟩) (k + 1) cg8)); clear o8 o9 hb8 g8 n9))
      go_roundw
      case rel => exact ⟨k + 1, _, _, by go_num, by omega, N9, B9⟩
      case measure => simp [intOf] <;> omega
    · have t1 : ¬ (k : Int) < n := by omega
      have hkn := hid (show k = n by omega)
      go_wp2_with fail
      go_ret2
      have hN := HN.out
      rw [hkn.out] at hN
      obtain ⟨gc, cc, rfl, hb1, _⟩ := hN.cols.form fun e => by
        have := hN.cols.1
        rcases hN.cols.2 with ⟨_, h0⟩ | ⟨_, _, _, h1, _⟩
        · omega
        · rw [e] at h1; cases h1
      obtain ⟨m, rfl⟩ : ∃ m, n = m + 1 := ⟨n - 1, by omega⟩
      obtain ⟨gg, cg, rfl, hb2⟩ := own_some hN.gone
      refine ⟨w.heap.size, gc, cc, gg, cg, rfl, ⟨hN.blk, ?_, ?_⟩, Nat.le_refl _, hb1, hb2, HB.out⟩
      · exact ⟨hN.cols.1, hN.cols.2.imp id fun ⟨g', cap, cur, hv, _, rest⟩ => ⟨g', cap, cur, hv, Nat.zero_le _, rest⟩⟩
      · have := hN.gone.lower (Nat.zero_le w.heap.size)
        rw [rep_true] at this
        exact OwnM.of this
end StM
end Go.Proofs.Ytlbfjnddbdpdpaa
set_option maxRecDepth 100000
namespace Go.Proofs.Ytlbfjnddbdpdpaa
open Go.ChangeShapes Go.WideShapes Go.ChangeAt Go.RowKit
attribute [local go_sem] Gives
namespace StM
section
variable {w : World} {g gc cc gg cg : Nat} {s : Rw}
/-- What Mend answers, and leaves. -/
def MenOut (w : World) (g gc gg : Nat) (s : Rw) (e : Ending) (w' : World) : Prop :=
  ∃ A c, e = .returned (.tuple #[.slice A (menL s).length c, .int .i64 (menE s)]) ∧ OwnI w' w.heap.size (.slice A (menL s).length c) (menL s) ∧ outR w g gc gg (menT s) w' ∧ (∀ b, (Value.slice A (menL s).length c).ownBlock = some b → w.heap.size ≤ b)
set_option maxHeartbeats 1000000 in
theorem rmend_any (H : Rq w g gc cc gg cg s) (hk : s.ok) : Calls Try.prog 16 #[.pointer (some ⟨g, 0, none⟩)] w (MenOut w g gc gg s) := by
  have HH := hid H
  have hn := hk.hi
  have HK := hid hk
  clear H hk
  go_enter Try.func16, Try.ntmps16
  go_wp2_with fail
  refine (rlost_any HH.out hn).mono ?_
  rintro e w1 ⟨v, rfl, ho, h1⟩
  obtain ⟨A, c, rfl⟩ := OwnI.len ho
  have H1 := hid (HH.out.on h1)
  have B1 := hid h1
  have O1 := hid ho
  clear ho h1
  have q0 := H1.out.q0
  obtain ⟨k, hkk⟩ : ∃ k, k = s.lost.length := ⟨_, rfl⟩
  have KK := hid hkk
  have FX := hid (rfix_st (cap := cc) (c := c) HK.out (intL_of O1.out) H1.out.secs)
  rw [← hkk] at FX ⊢
  clear hkk
  go_wp2_with fail
  refine FX.out.mono ?_
  rintro e w2 (⟨hf, rfl, h2⟩ | ⟨hf, g2, c2, rfl, o2, h2⟩)
  · have B2 := hid (B1.out.trans (h2.mono B1.out.size))
    have H2 := hid (H1.out.on h2)
    have e1 := hid (show menL s = [] by unfold menL; rw [if_pos hf])
    have e2 := hid (show menE s = 7 by unfold menE; rw [if_pos hf])
    have e3 := hid (show menT s = s by unfold menT; rw [if_pos hf])
    clear h2 hf
    go_wp2_with fail
    go_ret2
    refine ⟨none, 0, by rw [e1.out, e2.out]; rfl, by rw [e1.out]; exact World.ownsRow_nil _ _ _ _, ?_, fun b e => by cases e⟩
    rw [e3.out]
    exact ⟨gc, cc, gg, cg, H2.out, .inl rfl, .inl rfl, Turn.of_new B2.out⟩
  · have B2 := hid (B1.out.trans (h2.mono B1.out.size))
    have H2 := hid (H1.out.on h2)
    have O2 := hid (World.ownsRow.kept (row := none) O1.out ⟨h2.os, h2.tape, h2.output, h2.size, fun i hi _ => h2.block i hi⟩ (by
      rcases O1.out.2 with ⟨e, _⟩ | ⟨g', _, _, e, _⟩
      · exact .inl (by rw [e]; rfl)
      · exact .inr (by rw [e]; simp [Value.ownBlock])))
    have S2 := hid o2
    have e1 := hid (show menL s = s.lost by unfold menL; rw [if_neg hf])
    have e2 := hid (show menE s = 0 by unfold menE; rw [if_neg hf])
    have e3 := hid (show menT s = { s with F := mendF s, M := fun _ => false } by unfold menT; rw [if_neg hf])
    have q0 := H2.out.q0
    have f0 := H2.out.blk.frozen 0
    clear h2 o2 hf FX
    go_wp2_with fail
    have hw0 := hid (show w.heap.size ≤ w2.heap.size from B2.out.size)
    have hgl := hid HH.out.gLt
    have hol := hid HH.out.oLt
    have L3 := hid (H2.out.lay S2.out)
    have T3 := hid (show Turn (fun k => k = g ∨ k = gc ∨ k = gg) w (w2.setCell ⟨g, 0, none⟩ (.slice (some ⟨g2, 0, none⟩) s.n c2)) from (Turn.of_new (S := fun k => k = g ∨ k = gc ∨ k = gg) B2.out).trans (Turn.setCell _ _ _ (.inl rfl)) fun _ e => .inl e)
    have O3 := hid (ownsRow_setCell_below O2.out (a := ⟨g, 0, none⟩) hgl.out (.slice (some ⟨g2, 0, none⟩) s.n c2))
    have G2 := hid (show w.heap.size ≤ g2 from Nat.le_trans B1.out.size (own_lt S2.out).2.1)
    generalize hw3 : World.setCell w2 _ _ = w3 at L3 T3 O3 ⊢
    clear hw3 q0 f0 H2 O2 S2
    go_loopw [7] (fun u wr => ∃ j : Nat, u = .int .i64 j ∧ j ≤ s.n ∧ Hid (Rq wr g g2 c2 gg cg { s with F := mendF s, M := fun i => if i < j then false else s.M i }) ∧ Hid (Turn (fun k => k = g ∨ k = gc ∨ k = gg) w wr) ∧ Hid (OwnI wr w.heap.size (.slice A s.lost.length c) s.lost)) (fun u _ => s.n - (intOf u).toNat)
    case atStart => exact ⟨0, rfl, Nat.zero_le _, hid (L3.out.mono (fun _ _ _ _ => rfl) fun j _ => by simp), T3, O3⟩
    case round =>
      obtain ⟨j, rfl, hj, HR, HT, HO⟩ := hrel
      have q1 : wr.cell? ⟨g, 1, none⟩ = some (.slice (some ⟨gg, 0, none⟩) s.n cg) := HR.out.q1
      by_cases hgo : j < s.n
      · have t1 : (j : Int) < s.n := by omega
        have q2 := HR.out.at' (j := j) hgo
        have q3 := HR.out.fro j
        have R4 := hid ((HR.out.flag (j := j) hgo false).mono (F := mendF s) (M := fun i => if i < j + 1 then false else s.M i) (fun _ _ _ _ => rfl) fun i _ => by
          show (if i < j + 1 then false else s.M i) = if i = j then false else if i < j then false else s.M i
          by_cases e : i = j
          · subst e; simp
          · rw [if_neg e]
            by_cases e2 : i < j
            · rw [if_pos e2, if_pos (by omega)]
            · rw [if_neg e2, if_neg (by omega)])
        have T4 := hid (HT.out.trans (Turn.setCell (S := fun k => k = g ∨ k = gc ∨ k = gg) wr ⟨gg, j, none⟩ (.bool false) (.inr (.inr rfl))) fun _ e => .inl e)
        have O4 := hid (ownsRow_setCell_below HO.out (a := ⟨gg, j, none⟩) hol.out (.bool false))
        go_wp2_with fail
        go_roundw
        case rel => exact ⟨j + 1, by go_num, by omega, R4, T4, O4⟩
        case measure => simp [intOf] <;> omega
      · have t1 : ¬ (j : Int) < s.n := by omega
        have hjn := hid (show j = s.n by omega)
        go_wp2_with fail
        go_ret2
        refine ⟨A, c, by rw [e1.out, e2.out, ← KK.out]; rfl, by rw [e1.out]; exact HO.out, ?_, fun b e => (OwnI.lt HO.out b (by rw [e1.out] at e; exact e)).1⟩
        rw [e3.out]
        refine ⟨g2, c2, gg, cg, HR.out.mono (fun _ _ _ _ => rfl) fun i hi => ?_, .inr G2.out, .inl rfl, HT.out⟩
        show false = if i < j then false else s.M i
        rw [if_pos (by have := hjn.out; have : i < s.n := hi; omega)]
end
end StM
end Go.Proofs.Ytlbfjnddbdpdpaa
set_option maxRecDepth 100000
namespace Go.Proofs.Ytlbfjnddbdpdpaa
open Go.ChangeShapes Go.WideShapes Go.ChangeAt Go.RowKit Go.Shelf
attribute [local go_sem] Gives
namespace StM
/-- The program's row as the document tells it. -/
def abs (u : Rw) : Rw := ⟨u.n, u.F, fun j => decide (j < u.n) && !u.M j⟩
theorem abs_ok {u : Rw} (h4 : 4 ≤ u.n) (hn : u.n ≤ 64) (hF : ∀ i k, u.F i k < 256) : (abs u).ok := ⟨h4, hn, hF, fun j hj => by
  have : ¬ j < u.n := by have : u.n ≤ j := hj; omega
  show (decide (j < u.n) && !u.M j) = false
  rw [decide_eq_false this]; rfl⟩
theorem abs_lost {u : Rw} : (abs u).lost = u.gone := by
  unfold Rw.lost Rw.gone gapsL
  refine List.filter_congr fun j hj => ?_
  have hj' : j < u.n := List.mem_range.1 hj
  show (decide (j < u.n) && !u.M j) = !u.M j
  rw [decide_eq_true hj', Bool.true_and]
/-- The row with the columns of l brought back. -/
def midU (u : Rw) (l : List Nat) (X : Nat → Nat → Nat) : Rw := { u with F := fun i => if i ∈ l then X i else u.F i, M := fun j => if j ∈ l then true else u.M j }
def menU (u : Rw) : Rw := if (abs u).full then u else midU u (abs u).lost (mendF (abs u))
theorem mid_step {u : Rw} {l : List Nat} {X : Nat → Nat → Nat} {k x : Nat} (hx : l[k]? = some x) : midU u (l.take (k + 1)) X = { midU u (l.take k) X with F := upd (midU u (l.take k) X).F x (X x), M := fun i => if i = x then true else (midU u (l.take k) X).M i } := by
  have hk : k < l.length := by
    rcases Nat.lt_or_ge k l.length with e | e
    · exact e
    · rw [List.getElem?_eq_none e] at hx; cases hx
  have ht : l.take (k + 1) = l.take k ++ [x] := by
    rw [List.take_add_one, hx]; rfl
  have hm : ∀ i, i ∈ l.take (k + 1) ↔ i = x ∨ i ∈ l.take k := fun i => by rw [ht, List.mem_append, List.mem_singleton, or_comm]
  unfold midU
  congr 1
  · funext i
    unfold upd
    dsimp only
    by_cases e : i = x
    · rw [if_pos e, if_pos ((hm i).2 (.inl e)), e]
    · rw [if_neg e]
      by_cases e2 : i ∈ l.take k
      · rw [if_pos e2, if_pos ((hm i).2 (.inr e2))]
      · rw [if_neg e2, if_neg fun h => (hm i).1 h |>.elim e e2]
  · funext i
    dsimp only
    by_cases e : i = x
    · rw [if_pos e, if_pos ((hm i).2 (.inl e))]
    · rw [if_neg e]
      by_cases e2 : i ∈ l.take k
      · rw [if_pos e2, if_pos ((hm i).2 (.inr e2))]
      · rw [if_neg e2, if_neg fun h => (hm i).1 h |>.elim e e2]
section
variable {ops : Array Oper} {a : Act} {rest : List Oper} {dst : Option Tmp} {ty : TypeId} {pos : String} {after : Array Edge} {x : Operand} {g : Nat} {f : Nat → Nat} {C : Bool → World → Prop} {Qk : Act → Prop} {k s : Nat} {gd : Option (Nat × Bool)}
theorem sldm {o : Nat} (hk : k ≠ s) (hwt : Region.wanted ⟨dst, .load 32 x, ty, pos, after, gd⟩ (yielded ops a.tmps) = true) (hx : a.eval x = .pointer (some ⟨g, o, none⟩)) (hb : ∀ b w, C b w → w.rangeAt g o (sec f).toList)
    (h : wpS Try.prog ops s C Qk (k + 1) rest (a.put dst (.agg (sec f)))) : wpS Try.prog ops s C Qk k (⟨dst, .load 32 x, ty, pos, after, gd⟩ :: rest) a :=
  wpS_val hk hwt (fun b w hw => gives_value (w' := w) (by simp only [execOp, hx, Sem.run_bind, run_ldS (hb b w hw), Result.andThen_ok, Sem.run_pure]) hw) h
end
theorem ownI_turn {T : Nat → Prop} {w w' : World} {B : Nat} {v : Value} {l : List Nat} (h : OwnI w B v l) (ht : Turn T w w') (hT : ∀ b, T b → b < B) : OwnI w' B v l := by
  refine ⟨h.1, ?_⟩
  rcases h.2 with hn | ⟨g, cap, cur, rfl, hb, hg, rest⟩
  · exact .inl hn
  · exact .inr ⟨g, cap, cur, rfl, hb, (ht.block g (Blk.lt (t := 3) (cs := cur) hg) fun e => by have := hT g e; omega).trans hg, rest⟩
section
variable {w : World} {g gc cc gg cg : Nat} {u : Rw}
/-- What the program's Mend answers, and leaves. -/
def MenP (w : World) (g gc cc gg cg : Nat) (u : Rw) (e : Ending) (w' : World) : Prop :=
  ∃ A c, e = .returned (.tuple #[.slice A (menL (abs u)).length c, .int .i64 (menE (abs u))]) ∧ OwnI w' w.heap.size (.slice A (menL (abs u)).length c) (menL (abs u)) ∧ Sq w' g gc cc gg cg (menU u) ∧ Turn (fun k => k = gc ∨ k = gg) w w'
set_option maxRecDepth 100000 in
set_option maxHeartbeats 4000000 in
theorem mend_any (H : Sq w g gc cc gg cg u) (h4 : 4 ≤ u.n) (hn : u.n ≤ 64) (hF : ∀ i k, u.F i k < 256) : Calls Try.prog 15 #[.pointer (some ⟨g, 0, none⟩)] w (MenP w g gc cc gg cg u) := by
  have HH := hid H
  have HK := hid (abs_ok h4 hn hF)
  clear H
  have hm := hid (made_any' HH.out.cn)
  rw [decide_eq_true (show 0 < u.n by omega)] at hm
  have hl := hid (lost_any HH.out hn)
  go_enter Try.func15, Try.ntmps15
  go_wp2_with fail
  refine hm.out.mono ?_
  rintro e w1 ⟨rfl, rfl⟩
  go_wp2_with fail
  refine hl.out.mono ?_
  rintro e w1 ⟨v, rfl, ho, h1⟩
  clear hm hl
  rw [← abs_lost] at ho
  obtain ⟨A, c, rfl⟩ := OwnI.len ho
  have H1 := hid (HH.out.on h1)
  have B1 := hid h1
  have O1 := hid ho
  clear ho h1
  have q0 := H1.out.q0
  obtain ⟨l, hll⟩ : ∃ l, l = (abs u).lost := ⟨_, rfl⟩
  have LL := hid hll
  have FX := hid (fix_st (cap := cc) (c := c) HK.out (intL_of O1.out) (show Secs w1 w1.heap.size (some ⟨gc, 0, none⟩) (abs u).n (abs u).F from H1.out.secs))
  rw [← hll] at FX O1 ⊢
  have hlN : l.length ≤ 64 := by rw [hll]; exact Nat.le_trans (gapsL_le _ _) hn
  have LN := hid (show ∀ x, x ∈ l → x < u.n from fun x hx => by rw [hll] at hx; exact (gaps_mem.1 hx).1)
  clear hll
  obtain ⟨K, hK⟩ : ∃ K, K = l.length := ⟨_, rfl⟩
  have KK := hid hK
  rw [← hK] at FX hlN ⊢
  clear hK
  go_wp2_with fail
  refine FX.out.mono ?_
  rintro e w2 (⟨hf, rfl, h2⟩ | ⟨hf, g2, c2, rfl, o2, h2⟩)
  · have B2 := hid (B1.out.trans (h2.mono B1.out.size))
    have H2 := hid (H1.out.on h2)
    have e1 := hid (show menL (abs u) = [] by unfold menL; rw [if_pos hf])
    have e2 := hid (show menE (abs u) = 7 by unfold menE; rw [if_pos hf])
    have e3 := hid (show menU u = u by unfold menU; rw [if_pos hf])
    clear h2 hf
    go_wp2_with fail
    go_ret2
    refine ⟨none, 0, by rw [e1.out, e2.out]; rfl, by rw [e1.out]; exact World.ownsRow_nil _ _ _ _, ?_, Turn.of_new B2.out⟩
    rw [e3.out]
    exact H2.out
  · have B2 := hid (B1.out.trans (h2.mono B1.out.size))
    have H2 := hid (H1.out.on h2)
    have O2 := hid (show OwnI w2 w.heap.size (.slice A K c) l from by rw [KK.out]; exact row_below O1.out h2 (Nat.le_refl _))
    have S2 := hid (show OwnS w2 w1.heap.size (.slice (some ⟨g2, 0, none⟩) u.n c2) u.n (mendF (abs u)) from o2)
    have e1 := hid (show menL (abs u) = l by unfold menL; rw [if_neg hf, LL.out])
    have e2 := hid (show menE (abs u) = 0 by unfold menE; rw [if_neg hf])
    have e3 := hid (show menU u = midU u l (mendF (abs u)) by unfold menU; rw [if_neg hf, LL.out])
    have G2 := hid (show ¬ g2 = gc by have := (own_lt S2.out).2.1; have := H1.out.cLt; omega)
    have G3 := hid (show gc < w.heap.size ∧ gg < w.heap.size from ⟨HH.out.cLt, HH.out.oLt⟩)
    have G4 := hid (show ¬ (g2 = gc ∨ g2 = gg) by have := (own_lt S2.out).2.1; have := H1.out.cLt; have := H1.out.oLt; omega)
    generalize mendF (abs u) = X at S2 e3
    have hn' : (abs u).n = u.n := rfl
    rw [hn']
    clear h2 o2 hf FX hn'
    go_wp2_with fail
    go_loopw [28] (fun uu wr => ∃ k : Nat, uu = .int .i64 k ∧ k ≤ K ∧ Hid (Sq wr g gc cc gg cg (midU u (l.take k) X)) ∧ Hid (Turn (fun k => k = gc ∨ k = gg) w2 wr)) (fun uu _ => K - (intOf uu).toNat)
    case atStart => exact ⟨0, rfl, Nat.zero_le _, hid (by rw [List.take_zero]; exact H2.out.mono (fun _ _ _ _ => by simp) fun _ _ => by simp), hid (Turn.refl _ _)⟩
    case round =>
      obtain ⟨k, rfl, hk, HR, HT⟩ := hrel
      by_cases hgo : k < K
      · have t1 : (k : Int) < K := by omega
        have OR := hid (ownI_turn O2.out HT.out fun b e => by have := G3.out; omega)
        have OR2 : OwnI wr w.heap.size (.slice A l.length c) l := by have := OR.out; rwa [KK.out] at this
        obtain ⟨b, c', e, hr⟩ := OwnI.get (j := k) OR2 (by rw [← KK.out]; exact hgo)
        simp only [Value.slice.injEq] at e
        obtain ⟨rfl, _, rfl⟩ := e
        have q9 := hr k (by rw [← KK.out]; exact hgo)
        obtain ⟨x, hx⟩ : ∃ x, x = l.getD k 0 := ⟨_, rfl⟩
        rw [← hx] at q9
        have hx2 : l[k]? = some x := by
          rw [hx, List.getD_eq_getElem?_getD, List.getElem?_eq_getElem (by rw [← KK.out]; exact hgo)]; rfl
        have hxn : x < u.n := LN.out x (List.mem_of_getElem? hx2)
        have ST := hid (mid_step (u := u) (X := X) hx2)
        obtain ⟨uk, huk⟩ : ∃ uk, uk = midU u (l.take k) X := ⟨_, rfl⟩
        have hnk : u.n = uk.n := by rw [huk]; rfl
        have NK := hid hnk
        rw [← huk] at HR ST
        have MR := hid (ownS_turn S2.out HT.out fun b e => by cases e; exact G4.out)
        have hj : x < uk.n := by rw [← hnk]; exact hxn
        have hx64 : (x : Int) < u.n := by omega
        clear hr hx hx2 huk hnk OR2
        go_wp2_with fail
        refine wp_region_put (C := fun b w' => Sq w' g gc cc gg cg (sb b uk x (X x)) ∧ Turn (fun k => k = gc) wr w') 15 16 (by omega) (by kernel_rfl) (by kernel_rfl) (by kernel_rfl) ⟨HR.out.drew, Turn.drew _⟩ ?_
        simp only [List.take_succ_cons, List.take_zero, List.drop_succ_cons, List.drop_zero]
        apply wpS_val
        · decide
        · rfl
        · intro bb w' hw'
          go_simp
          first | exact rfl | exact ⟨rfl, hw'⟩
        simp only [Act.put, List.setIfInBounds_toArray, List.set_cons_succ, List.set_cons_zero]
        apply wpS_val
        · decide
        · rfl
        · intro bb w' hw'
          go_simp
          first | exact rfl | exact ⟨rfl, hw'⟩
        simp only [Act.put, List.setIfInBounds_toArray, List.set_cons_succ, List.set_cons_zero]
        apply wpS_val
        · decide
        · rfl
        · intro bb w' hw'
          go_simp
          first | exact rfl | exact ⟨rfl, hw'⟩
        simp only [Act.put, List.setIfInBounds_toArray, List.set_cons_succ, List.set_cons_zero]
        apply wpS_val
        · decide
        · rfl
        · intro bb w' hw'
          have q0 : w'.cell? ⟨g, 0, none⟩ = some (.slice (some ⟨gc, 0, none⟩) uk.n cc) := hw'.1.q0
          go_simp
          first | exact rfl | exact ⟨rfl, hw'⟩
        simp only [Act.put, List.setIfInBounds_toArray, List.set_cons_succ, List.set_cons_zero]
        apply wpS_val
        · decide
        · rfl
        · intro bb w' hw'
          go_simp
          first | exact rfl | exact ⟨rfl, hw'⟩
        simp only [Act.put, List.setIfInBounds_toArray, List.set_cons_succ, List.set_cons_zero]
        apply wpS_val
        · decide
        · rfl
        · intro bb w' hw'
          go_simp
          first | exact rfl | exact ⟨rfl, hw'⟩
        simp only [Act.put, List.setIfInBounds_toArray, List.set_cons_succ, List.set_cons_zero]
        apply wpS_val
        · decide
        · rfl
        · intro bb w' hw'
          go_simp
          first | exact rfl | exact ⟨rfl, hw'⟩
        simp only [Act.put, List.setIfInBounds_toArray, List.set_cons_succ, List.set_cons_zero]
        apply wpS_val
        · decide
        · rfl
        · intro bb w' hw'
          go_simp
          first | exact rfl | exact ⟨rfl, hw'⟩
        simp only [Act.put, List.setIfInBounds_toArray, List.set_cons_succ, List.set_cons_zero]
        apply wpS_val
        · decide
        · rfl
        · intro bb w' hw'
          have q1 : w'.cell? ⟨g, 1, none⟩ = some (.slice (some ⟨gg, 0, none⟩) uk.n cg) := hw'.1.q1
          go_simp
          first | exact rfl | exact ⟨rfl, hw'⟩
        simp only [Act.put, List.setIfInBounds_toArray, List.set_cons_succ, List.set_cons_zero]
        apply wpS_val
        · decide
        · rfl
        · intro bb w' hw'
          go_simp
          first | exact rfl | exact ⟨rfl, hw'⟩
        simp only [Act.put, List.setIfInBounds_toArray, List.set_cons_succ, List.set_cons_zero]
        apply wpS_val
        · decide
        · rfl
        · intro bb w' hw'
          go_simp
          first | exact rfl | exact ⟨rfl, hw'⟩
        simp only [Act.put, List.setIfInBounds_toArray, List.set_cons_succ, List.set_cons_zero]
        apply wpS_val
        · decide
        · rfl
        · intro bb w' hw'
          go_simp
          first | exact rfl | exact ⟨rfl, hw'⟩
        simp only [Act.put, List.setIfInBounds_toArray, List.set_cons_succ, List.set_cons_zero]
        apply wpS_val
        · decide
        · rfl
        · intro bb w' hw'
          go_simp
          first | exact rfl | exact ⟨rfl, hw'⟩
        simp only [Act.put, List.setIfInBounds_toArray, List.set_cons_succ, List.set_cons_zero]
        apply sldm (f := X x) (o := x * 64)
        · decide
        · rfl
        · rfl
        · intro b w' hw'
          have := own_range (ownS_turn MR.out hw'.2 fun b e => by cases e; exact G2.out) hxn
          rwa [Nat.zero_add] at this
        simp only [Act.put, List.setIfInBounds_toArray, List.set_cons_succ, List.set_cons_zero]
        apply wpS_val
        · decide
        · rfl
        · intro bb w' hw'
          go_simp
          first | exact rfl | exact ⟨rfl, hw'⟩
        simp only [Act.put, List.setIfInBounds_toArray, List.set_cons_succ, List.set_cons_zero]
        apply ssto gc x (X x)
        · rfl
        · rfl
        · rfl
        · rfl
        · intro w' hw'
          refine ⟨0, uk.n, cc, uk.F, hw'.1.cols, hj, fun w3 o3 g3 => ?_⟩
          have := hw'.1.put o3 g3
          exact ⟨this.1, hw'.2.trans this.2 fun _ e => .inl e⟩
        simp only [Act.put]
        refine wpS_nil fun w3 hw3 => ?_
        have P3 : Sq w3 g gc cc gg cg { uk with F := upd uk.F x (X x) } := hw3.1
        have H3 := hid (P3.flag hj true)
        have T3 := hid ((HT.out.trans (hw3.2.mono fun k e => .inl e) fun _ e => .inl e).trans (Turn.setCell (S := fun k => k = gc ∨ k = gg) w3 ⟨gg, x, none⟩ (.bool true) (.inr rfl)) fun _ e => .inl e)
        have q2 := P3.at' (j := x) hj
        have q3 := P3.fro x
        clear hw3 P3
        go_wp2_with fail
        go_roundw
        case rel => exact ⟨k + 1, by go_num, by omega, by rw [ST.out]; exact H3, T3⟩
        case measure => simp [intOf] <;> omega
      · have t1 : ¬ (k : Int) < K := by omega
        have hkn := hid (show k = K by omega)
        go_wp2_with fail
        go_ret2
        have hR := HR.out
        rw [List.take_of_length_le (by rw [hkn.out, KK.out]; exact Nat.le_refl _)] at hR
        refine ⟨A, c, by rw [e1.out, e2.out, ← KK.out]; rfl, by rw [e1.out, ← KK.out]; exact ownI_turn O2.out HT.out fun b e => by have := G3.out; omega, by rw [e3.out]; exact hR, ?_⟩
        exact (Turn.of_new (S := fun k => k = gc ∨ k = gg) B2.out).trans HT.out fun _ e => .inl e
end
end StM
end Go.Proofs.Ytlbfjnddbdpdpaa
set_option maxRecDepth 100000
namespace Go.Proofs.Ytlbfjnddbdpdpaa
open Go.ChangeShapes Go.WideShapes Go.ChangeAt Go.RowKit
attribute [local go_sem] Gives
attribute [local go_sem high] run_eql_sec run_neq_sec
namespace StM
theorem alloc_rowS (w : World) : (Instr.alloc 75 true (.tuple #[])).run Try.prog w = .ok (.pointer (some ⟨w.heap.size, 0, none⟩)) (w.alloc (.cells (secs 3 z3) 75)) := by
  simp [Instr.alloc, Sem.run_bind, zero_row w, newVar, newRow, Value.cells]
theorem bbldr {ops : Array Oper} {a : Act} {rest : List Oper} {dst : Option Tmp} {ty : TypeId} {pos : String} {after : Array Edge} {C : World → Prop} {Qk : Act → Prop} {gd : Option (Nat × Bool)} {parts : Array (Nat × Operand)} (F : Nat → Nat → Nat) (i : Nat) (l : List (Nat → Nat)) (hwt : Region.wanted ⟨dst, .build 75 parts, ty, pos, after, gd⟩ (yielded ops a.tmps) = true) (hl : i + l.length ≤ 3)
    (hF : ∀ j k, j < 3 → k < 64 → F j k = if i ≤ j ∧ j < i + l.length then l.getD (j - i) (fun _ => 0) k else 0) (hp : parts.toList.map (fun x => (x.1, a.eval x.2)) = partsFrom i l)
    (h : wpB Try.prog ops C Qk rest (a.put dst (.agg (secs 3 F)))) : wpB Try.prog ops C Qk (⟨dst, .build 75 parts, ty, pos, after, gd⟩ :: rest) a :=
  wpB_val hwt (fun w hw => gives_value (w' := w) (by simp only [execOp, Sem.run_bind, run_build_row3 w _ i l F (by rw [Array.toList_map]; exact hp) hl hF, Result.andThen_ok, Sem.run_pure]) ⟨hw, Below.refl _ _⟩) h
/-- P, Q and the old column. -/
def x3 (p q o : Nat → Nat) : Nat → Nat → Nat
  | 0 => p
  | 1 => q
  | _ => o
theorem x3_lt {p q o : Nat → Nat} (hp : ∀ k, p k < 256) (hq : ∀ k, q k < 256) (ho : ∀ k, o k < 256) : ∀ i k, x3 p q o i k < 256 := fun i k => by
  match i with
  | 0 => exact hp k
  | 1 => exact hq k
  | i + 2 => exact ho k
section
variable {w : World} {a : Act} {dst : Option Tmp} {ty : TypeId} {pos : String} {after : Array Edge} {gd : Option (Nat × Bool)} {R : Value → World → Prop} {x y : Operand} {g o : Nat} {f : Nat → Nat} {F F0 : Nat → Nat → Nat}
theorem gE_ldS (hx : a.eval x = .pointer (some ⟨g, o, none⟩)) (hb : w.rangeAt g o (sec f).toList) (h : R (.agg (sec f)) w) : GivesE Try.prog ⟨dst, .load 32 x, ty, pos, after, gd⟩ a w R := by
  unfold GivesE
  simp only [execOp, hx, Sem.run_bind, run_ldS hb, Result.andThen_ok, Sem.run_pure]
  exact h
theorem gE_bldr {parts : Array (Nat × Operand)} (F : Nat → Nat → Nat) (i : Nat) (l : List (Nat → Nat)) (hl : i + l.length ≤ 3)
    (hF : ∀ j k, j < 3 → k < 64 → F j k = if i ≤ j ∧ j < i + l.length then l.getD (j - i) (fun _ => 0) k else 0) (hp : parts.toList.map (fun x => (x.1, a.eval x.2)) = partsFrom i l)
    (h : R (.agg (secs 3 F)) w) : GivesE Try.prog ⟨dst, .build 75 parts, ty, pos, after, gd⟩ a w R := by
  unfold GivesE
  simp only [execOp, Sem.run_bind, run_build_row3 w _ i l F (by rw [Array.toList_map]; exact hp) hl hF, Result.andThen_ok, Sem.run_pure]
  exact h
theorem gE_alR (h : R (.pointer (some ⟨w.heap.size, 0, none⟩)) (w.alloc (.cells (secs 3 z3) 75))) : GivesE Try.prog ⟨dst, .alloc 75, ty, pos, after, gd⟩ a w R := by
  unfold GivesE
  simp only [execOp, Sem.run_bind, alloc_rowS w, Result.andThen_ok, Sem.run_pure]
  exact h
theorem gE_stR (hx : a.eval x = .pointer (some ⟨g, 0, none⟩)) (hy : a.eval y = .agg (secs 3 F)) (hb : Blk w g 75 (secs 3 F0)) (h : R undef (w.setRow g (secs 3 F))) : GivesE Try.prog ⟨dst, .store 75 x y, ty, pos, after, gd⟩ a w R := by
  have := run_storeVar_row (P := Try.prog) w g 75 75 (secs 3 F0) (secs 3 F) hb (info_row.trans (by rw [size_secs])) (by rw [size_secs, size_secs]) secs_one
  unfold GivesE
  simp only [execOp, hx, hy, Instr.storeAt, Instr.sureAddr, Sem.run_bind, this, Result.andThen_ok, Sem.run_pure]
  exact h
end
theorem cstR {ops : Array Oper} {a : Act} {rest : List Oper} {dst : Option Tmp} {ty : TypeId} {pos : String} {after : Array Edge} {gd : Option (Nat × Bool)} {x y : Operand} {S : Nat → Value → Prop} {C : (Nat → Bool) → (Nat → Value) → World → Prop} {Q : (Nat → Value) → Act → Prop} {k : Nat} {vs : Nat → Value} (g : Nat) (F : Nat → Nat → Nat)
    (hwt : Region.wanted ⟨dst, .store 75 x y, ty, pos, after, gd⟩ (yielded ops a.tmps) = true) (hx : a.eval x = .pointer (some ⟨g, 0, none⟩)) (hy : a.eval y = .agg (secs 3 F))
    (h : ∀ d w, d k = false → (∀ j, Region.waitsFor .any ops k j = true → d j = true) → C d vs w → (∃ F0, Blk w g 75 (secs 3 F0)) ∧ S k undef ∧ C (upB d k) (updV vs k undef) (w.setRow g (secs 3 F)))
    (h2 : S k (vs k) → wpC Try.prog ops S C Q (k + 1) vs rest (a.put dst (vs k))) : wpC Try.prog ops S C Q k vs (⟨dst, .store 75 x y, ty, pos, after, gd⟩ :: rest) a :=
  ⟨.inl ⟨hwt, fun d w hd _ hw hC => by
    obtain ⟨⟨F0, h1⟩, h3⟩ := h d w hd hw hC
    exact gE_stR hx hy h1 h3⟩, h2⟩
/-- What holds while a new variable is made, and set to Y. -/
structure NvC (w4 : World) (Y : Nat → Nat → Nat) (d1 d2 : Bool) (v : Value) (w' : World) : Prop where
  b : Below w4.heap.size w4 w'
  v : d1 = true → ∃ b, v = .pointer (some ⟨b, 0, none⟩) ∧ w4.heap.size ≤ b ∧ Blk w' b 75 (secs 3 (if d2 then Y else z3))
theorem NvC.on {w4 w2 w3 : World} {Y : Nat → Nat → Nat} {d1 d2 : Bool} {v : Value} (h : NvC w4 Y d1 d2 v w2) (hb : Below w2.heap.size w2 w3) : NvC w4 Y d1 d2 v w3 :=
  ⟨h.b.trans (hb.mono h.b.size), fun e => by
    obtain ⟨b, h1, h2, h3⟩ := h.v e
    exact ⟨b, h1, h2, h3.below hb h3.lt⟩⟩
theorem NvC.get {w4 w2 : World} {Y : Nat → Nat → Nat} {d1 d2 : Bool} {v : Value} (h : NvC w4 Y d1 d2 v w2) (h1 : d1 = true) {b : Nat} (hv : v = .pointer (some ⟨b, 0, none⟩)) : w4.heap.size ≤ b ∧ Blk w2 b 75 (secs 3 (if d2 then Y else z3)) := by
  obtain ⟨b', f, h2, h3⟩ := h.v h1
  rw [hv] at f
  cases f
  exact ⟨h2, h3⟩
theorem NvC.put {w4 w2 : World} {Y : Nat → Nat → Nat} {d1 d2 : Bool} {v : Value} (h : NvC w4 Y d1 d2 v w2) (h1 : d1 = true) {b : Nat} (hv : v = .pointer (some ⟨b, 0, none⟩)) : NvC w4 Y d1 true v (w2.setRow b (secs 3 Y)) := by
  obtain ⟨h2, h3⟩ := h.get h1 hv
  exact ⟨below_setRow h.b h2 _, fun _ => ⟨b, hv, h2, h3.setRow_same _⟩⟩
/-- A new variable's address. -/
def kPtr : Sp := ⟨fun v => ∃ b : Nat, v = .pointer (some ⟨b, 0, none⟩), fun _ _ => True, .pointer (some ⟨0, 0, none⟩)⟩
theorem kPtr_ok : kPtr.ok := ⟨⟨0, rfl⟩, fun _ _ _ _ _ => trivial⟩
theorem x3_parts {p q o : Nat → Nat} : ∀ j k, j < 3 → k < 64 → x3 p q o j k = if 0 ≤ j ∧ j < 0 + [p, q, o].length then [p, q, o].getD (j - 0) (fun _ => 0) k else 0 := fun j _ hj _ => by
  match j, hj with
  | 0, _ => rfl
  | 1, _ => rfl
  | 2, _ => rfl
end StM
end Go.Proofs.Ytlbfjnddbdpdpaa
set_option maxRecDepth 100000
namespace Go.Proofs.Ytlbfjnddbdpdpaa
open Go.ChangeShapes Go.WideShapes Go.ChangeAt Go.RowKit Go.Shelf
attribute [local go_sem] Gives
attribute [local go_sem high] run_eql_sec run_neq_sec
namespace StM
section
variable {ops : Array Oper} {a : Act} {rest : List Oper} {dst : Option Tmp} {ty : TypeId} {pos : String} {after : Array Edge} {x y : Operand} {g : Nat} {f : Nat → Nat} {D : (Nat → Bool) → World → Prop} {Qk : Act → Prop} {k : Nat} {st : Nat → Bool} {gd : Option (Nat × Bool)}
theorem mldm {o : Nat} (hk : st k = false) (hwt : Region.wanted ⟨dst, .load 32 x, ty, pos, after, gd⟩ (yielded ops a.tmps) = true) (hx : a.eval x = .pointer (some ⟨g, o, none⟩)) (hb : ∀ d w, D d w → w.rangeAt g o (sec f).toList)
    (h : wpM Try.prog ops st D Qk (k + 1) rest (a.put dst (.agg (sec f)))) : wpM Try.prog ops st D Qk k (⟨dst, .load 32 x, ty, pos, after, gd⟩ :: rest) a :=
  wpM_val hk hwt (fun d w hw => gives_value (w' := w) (by simp only [execOp, hx, Sem.run_bind, run_ldS (hb d w hw), Result.andThen_ok, Sem.run_pure]) hw) h
theorem msto (g i : Nat) (f : Nat → Nat) (hk : st k = true) (hwt : Region.wanted ⟨dst, .store 32 x y, ty, pos, after, gd⟩ (yielded ops a.tmps) = true)
    (hx : a.eval x = .pointer (some ⟨g, i * 64, none⟩)) (hy : a.eval y = .agg (sec f))
    (h : ∀ d w, d k = false → D d w → ∃ (B n cap : Nat) (F : Nat → Nat → Nat), OwnS w B (.slice (some ⟨g, 0, none⟩) n cap) n F ∧ i < n ∧ ∀ w', OwnS w' B (.slice (some ⟨g, 0, none⟩) n cap) n (upd F i f) → w.grownBy w' (some g) → D (upB d k) w')
    (h2 : wpM Try.prog ops st D Qk (k + 1) rest (a.put dst undef)) : wpM Try.prog ops st D Qk k (⟨dst, .store 32 x y, ty, pos, after, gd⟩ :: rest) a :=
  wpM_put hk hwt (fun d w hd hw => by
    obtain ⟨B, n, cap, F, h1, h3, h4⟩ := h d w hd hw
    exact gives_sto hx hy h1 h3 h4) h2
end
/-- The row while a column, P and Q are stored. -/
def wd (b1 b2 b3 : Bool) (u : Rw) (j m : Nat) (x p q : Nat → Nat) : Rw := { u with F := fun i => if i = j then (if b1 then x else u.F i) else if i = m then (if b2 then p else u.F i) else if i = m + 1 then (if b3 then q else u.F i) else u.F i }
theorem wd_1 {b2 b3 : Bool} {u : Rw} {j m : Nat} {x p q : Nat → Nat} : { wd false b2 b3 u j m x p q with F := upd (wd false b2 b3 u j m x p q).F j x } = wd true b2 b3 u j m x p q := by
  have hF : upd (wd false b2 b3 u j m x p q).F j x = (wd true b2 b3 u j m x p q).F := funext fun i => by
    unfold wd upd
    dsimp only
    by_cases e : i = j
    · simp [e]
    · simp [e]
  rw [hF]
  rfl
theorem wd_2 {b1 b3 : Bool} {u : Rw} {j m : Nat} {x p q : Nat → Nat} (h : m ≠ j) : { wd b1 false b3 u j m x p q with F := upd (wd b1 false b3 u j m x p q).F m p } = wd b1 true b3 u j m x p q := by
  have hF : upd (wd b1 false b3 u j m x p q).F m p = (wd b1 true b3 u j m x p q).F := funext fun i => by
    unfold wd upd
    dsimp only
    by_cases e : i = m
    · subst e; simp [h]
    · simp [e]
  rw [hF]
  rfl
theorem wd_3 {b1 b2 : Bool} {u : Rw} {j m : Nat} {x p q : Nat → Nat} (h : m + 1 ≠ j) : { wd b1 b2 false u j m x p q with F := upd (wd b1 b2 false u j m x p q).F (m + 1) q } = wd b1 b2 true u j m x p q := by
  have hF : upd (wd b1 b2 false u j m x p q).F (m + 1) q = (wd b1 b2 true u j m x p q).F := funext fun i => by
    unfold wd upd
    dsimp only
    by_cases e : i = m + 1
    · subst e; simp [h]
    · simp [e]
  rw [hF]
  rfl
theorem wd_0 {u : Rw} {j m : Nat} {x p q : Nat → Nat} : wd false false false u j m x p q = u := by
  unfold wd
  simp
section
variable {w : World} {g gc cc gg cg : Nat} {u : Rw}
def wriU (u : Rw) (c : Int) (x : Nat → Nat) : Rw := if wriE (abs u) c = 0 then { u with F := wriF (abs u) c.toNat x } else u
/-- What the program's Write answers, and leaves. -/
def WriP (w : World) (g gc cc gg cg : Nat) (u : Rw) (c : Int) (x : Nat → Nat) (e : Ending) (w' : World) : Prop :=
  ∃ A k, e = .returned (.tuple #[.slice A (wriL (abs u) c x).length k, .int .i64 (wriE (abs u) c)]) ∧ OwnI w' w.heap.size (.slice A (wriL (abs u) c x).length k) (wriL (abs u) c x) ∧ Sq w' g gc cc gg cg (wriU u c x) ∧ Turn (fun k => k = gc ∨ k = gg) w w'
theorem WriP.no {w w' : World} {c : Int} {x : Nat → Nat} (E : Nat) (hE : wriE (abs u) c = E) (h0 : E ≠ 0) (H : Sq w' g gc cc gg cg u) (hb : Below w.heap.size w w') : WriP w g gc cc gg cg u c x (.returned (.tuple #[.slice none 0 0, .int .i64 E])) w' := by
  have e1 : wriL (abs u) c x = [] := by unfold wriL; rw [if_neg (by omega)]
  have e2 : wriU u c x = u := by unfold wriU; rw [if_neg (by omega)]
  refine ⟨none, 0, by rw [e1, hE]; rfl, by rw [e1]; exact World.ownsRow_nil _ _ _ _, ?_, Turn.of_new hb⟩
  rw [e2]
  exact H
/-- Whether a column has other bytes now. -/
theorem other_any {b1 b2 k n g2 c2 B : Nat} {F : Nat → Nat → Nat} {W : World} (H : Sq W g gc cc gg cg u) (hk : k < u.n) (h1 : W.cell? ⟨b1, 0, none⟩ = some (.pointer (some ⟨g, 0, none⟩))) (h2 : W.cell? ⟨b2, 0, none⟩ = some (.slice (some ⟨g2, 0, none⟩) n c2))
    (hn : u.n = n) (ho : OwnS W B (.slice (some ⟨g2, 0, none⟩) n c2) n F) :
    Calls Try.prog 39 #[.int .i64 k, .pointer (some ⟨b1, 0, none⟩), .pointer (some ⟨b2, 0, none⟩)] W fun e W' => e = .returned (.bool (!eqS (u.F k) (F k))) ∧ Below W.heap.size W W' := by
  subst hn
  have HH := hid H
  have HO := hid ho
  have L1 := hid (World.block_lt_of_cell? W _ h1)
  have L2 := hid (World.block_lt_of_cell? W _ h2)
  have H1 := hid h1
  have H2 := hid h2
  clear H ho h1 h2
  go_enter Try.func39, Try.ntmps39
  go_wp2_with fail
  refine wp_region_tail (C := fun w' => Below W.heap.size W w') 12 (by kernel_rfl) (by kernel_rfl) (by kernel_rfl) (Below.refl _ _).drew ?_
  simp only [List.take_succ_cons, List.take_zero, List.drop_succ_cons, List.drop_zero]
  apply wpK_val
  · rfl
  · intro w' hw'
    have hcell := (hw'.cell (p := ⟨b1, 0, none⟩) L1.out).trans H1.out
    go_simp
    first | exact rfl | exact ⟨rfl, hw'⟩
  simp only [Act.put, List.setIfInBounds_toArray, List.set_cons_succ, List.set_cons_zero]
  apply wpK_val
  · rfl
  · intro w' hw'
    go_simp
    first | exact rfl | exact ⟨rfl, hw'⟩
  simp only [Act.put, List.setIfInBounds_toArray, List.set_cons_succ, List.set_cons_zero]
  apply wpK_val
  · rfl
  · intro w' hw'
    go_simp
    first | exact rfl | exact ⟨rfl, hw'⟩
  simp only [Act.put, List.setIfInBounds_toArray, List.set_cons_succ, List.set_cons_zero]
  apply wpK_val
  · rfl
  · intro w' hw'
    have hcell := (HH.out.on hw').q0
    go_simp
    first | exact rfl | exact ⟨rfl, hw'⟩
  simp only [Act.put, List.setIfInBounds_toArray, List.set_cons_succ, List.set_cons_zero]
  apply wpK_val
  · rfl
  · intro w' hw'
    go_simp
    first | exact rfl | exact ⟨rfl, hw'⟩
  simp only [Act.put, List.setIfInBounds_toArray, List.set_cons_succ, List.set_cons_zero]
  apply wpK_val
  · rfl
  · intro w' hw'
    go_simp
    first | exact rfl | exact ⟨rfl, hw'⟩
  simp only [Act.put, List.setIfInBounds_toArray, List.set_cons_succ, List.set_cons_zero]
  apply kldm
  · rfl
  · rfl
  · exact fun w' hw' => (HH.out.on hw').col hk
  simp only [Act.put, List.setIfInBounds_toArray, List.set_cons_succ, List.set_cons_zero]
  apply wpK_val
  · rfl
  · intro w' hw'
    have hcell := (hw'.cell (p := ⟨b2, 0, none⟩) L2.out).trans H2.out
    go_simp
    first | exact rfl | exact ⟨rfl, hw'⟩
  simp only [Act.put, List.setIfInBounds_toArray, List.set_cons_succ, List.set_cons_zero]
  apply wpK_val
  · rfl
  · intro w' hw'
    go_simp
    first | exact rfl | exact ⟨rfl, hw'⟩
  simp only [Act.put, List.setIfInBounds_toArray, List.set_cons_succ, List.set_cons_zero]
  apply wpK_val
  · rfl
  · intro w' hw'
    go_simp
    first | exact rfl | exact ⟨rfl, hw'⟩
  simp only [Act.put, List.setIfInBounds_toArray, List.set_cons_succ, List.set_cons_zero]
  apply kldm
  · rfl
  · rfl
  · exact fun w' hw' => by have := own_range (OwnS.below HO.out hw' (Nat.le_refl _)) hk; rwa [Nat.zero_add] at this
  simp only [Act.put, List.setIfInBounds_toArray, List.set_cons_succ, List.set_cons_zero]
  apply wpK_val
  · rfl
  · intro w' hw'
    go_simp
    first | exact rfl | exact ⟨rfl, hw'⟩
  simp only [Act.put, List.setIfInBounds_toArray, List.set_cons_succ, List.set_cons_zero]
  refine wpK_nil fun w2 hw2 => ?_
  have B2 := hid hw2
  clear hw2
  go_wp2_with fail
  go_ret
  exact ⟨rfl, B2.out⟩
end
end StM
end Go.Proofs.Ytlbfjnddbdpdpaa
set_option maxRecDepth 100000
namespace Go.Proofs.Ytlbfjnddbdpdpaa
open Go.ChangeShapes Go.WideShapes Go.ChangeAt Go.RowKit Go.Shelf
attribute [local go_sem] Gives GivesE
attribute [local go_sem high] run_eql_sec run_neq_sec
namespace StM
theorem those_box (p : Option Addr) (f : Value) (hf : ∃ k lb, f = .func (.func k) #[] lb) (w : World) : Calls Try.prog 38 #[.pointer p, f] w fun e w' =>
    e = .returned (.func (.func 59) #[] #[.pointer (some ⟨w.heap.size, 0, none⟩), .pointer (some ⟨w.heap.size + 1, 0, none⟩)]) ∧ Below w.heap.size w w' ∧ Boxed w' w.heap.size 23 (.pointer p) ∧ Boxed w' (w.heap.size + 1) 67 f := by
  refine (those_any p f hf w).mono ?_
  rintro e w' ⟨rfl, rfl⟩
  have b1 := Boxed.new (w.alloc (.cells #[.pointer p] 23)) 67 f
  rw [World.size_alloc] at b1
  exact ⟨rfl, ((Below.refl _ _).alloc (Nat.le_refl _) _).alloc (by simp) _, (Boxed.new _ _ _).alloc _, b1⟩
section
variable {w : World} {g gc cc gg cg : Nat} {u : Rw}
/-- What holds while the three columns are stored. -/
def WrD (w8 : World) (g gc cc gg cg bR bX : Nat) (u : Rw) (j d : Nat) (x : Nat → Nat) (Y : Nat → Nat → Nat) (dd : Nat → Bool) (w' : World) : Prop :=
  Sq w' g gc cc gg cg (wd (dd 23) (dd 25) (dd 27) u j d x (Y 0) (Y 1)) ∧ Turn (fun k => k = gc) w8 w' ∧ w'.cell? ⟨bR, 0, none⟩ = some (.pointer (some ⟨g, 0, none⟩)) ∧ Blk w' bX 75 (secs 3 Y)
theorem WrD.next {w8 w2 w3 : World} {g gc cc gg cg bR bX : Nat} {u : Rw} {j d i : Nat} {x f : Nat → Nat} {Y : Nat → Nat → Nat} {dd de : Nat → Bool} (h : WrD w8 g gc cc gg cg bR bX u j d x Y dd w2) (hR : bR ≠ gc) (hX : bX ≠ gc)
    (ho : OwnS w3 0 (.slice (some ⟨gc, 0, none⟩) u.n cc) u.n (upd (wd (dd 23) (dd 25) (dd 27) u j d x (Y 0) (Y 1)).F i f)) (hg : w2.grownBy w3 (some gc))
    (he : { wd (dd 23) (dd 25) (dd 27) u j d x (Y 0) (Y 1) with F := upd (wd (dd 23) (dd 25) (dd 27) u j d x (Y 0) (Y 1)).F i f } = wd (de 23) (de 25) (de 27) u j d x (Y 0) (Y 1)) : WrD w8 g gc cc gg cg bR bX u j d x Y de w3 := by
  obtain ⟨p, t⟩ := h.1.put (j := i) (x := f) ho hg
  rw [he] at p
  exact ⟨p, h.2.1.trans t fun _ e => .inl e, t.cell h.2.2.1 hR, h.2.2.2.turn t hX⟩
set_option maxRecDepth 100000 in
set_option maxHeartbeats 2000000 in
theorem write_any (H : Sq w g gc cc gg cg u) (h4 : 4 ≤ u.n) (h6 : u.n ≤ 64) (hF : ∀ i k, u.F i k < 256) (c : Int) (x : Nat → Nat) (hx : ∀ k, x k < 256) :
    Calls Try.prog 18 #[.pointer (some ⟨g, 0, none⟩), .int .i64 c, .agg (sec x)] w (WriP w g gc cc gg cg u c x) := by
  have HH := hid H
  have HX := hid hx
  have HF := hid hF
  clear H hx hF
  obtain ⟨d, hd⟩ : ∃ d, d = u.n - 2 := ⟨_, rfl⟩
  have hn : u.n = d + 2 := by omega
  have D := hid hd
  have N := hid hn
  have wr1 : wrap64 ((u.n : Int) - 2) = (d : Int) := by rw [IntWalk.wrap64_in _ (by omega)]; omega
  have wr2 : wrap64 ((d : Int) + 1) = ((d + 1 : Nat) : Int) := by rw [IntWalk.wrap64_in _ (by omega)]; omega
  by_cases hdat : (abs u).dat c
  · have hfe := hid (show findE u.n c ((u.n : Int) - 2) = 0 by
      unfold findE
      rw [if_neg (by omega), if_pos (by have := hdat; unfold Rw.dat at this; have e : (abs u).n = u.n := rfl; rw [e] at this; omega)])
    by_cases hl : u.gone = []
    · obtain ⟨j, rfl⟩ : ∃ j : Nat, c = j := ⟨c.toNat, by have := hdat.1; omega⟩
      have hjd : j < d := by have := hdat.2; have e : (abs u).n = u.n := rfl; rw [e] at this; omega
      have hE := hid (show wriE (abs u) j = 0 by unfold wriE; rw [if_pos hdat, if_pos (abs_lost.trans hl)])
      have JD := hid hjd
      obtain ⟨Y, hY⟩ : ∃ Y, Y = chg (x3 (u.F d) (u.F (d + 1)) (u.F j)) j x := ⟨_, rfl⟩
      have YE := hid hY
      have hwd := hid (show (wd true true true u j d x (Y 0) (Y 1)) = { u with F := wriF (abs u) j x } by
        have hFe : (wd true true true u j d x (Y 0) (Y 1)).F = wriF (abs u) j x := funext fun i => by
          unfold wriF
          rw [hY]
          show (if i = j then x else if i = d then (fun k => u.F d k ^^^ (u.F j k ^^^ x k)) else if i = d + 1 then (fun k => u.F (d + 1) k ^^^ GfM.mul (GfM.pw j) (u.F j k ^^^ x k)) else u.F i) =
            (if i = j then x else if i = u.n - 2 then (fun k => u.F (u.n - 2) k ^^^ (u.F j k ^^^ x k)) else if i = u.n - 1 then (fun k => u.F (u.n - 1) k ^^^ GfM.mul (GfM.pw j) (u.F j k ^^^ x k)) else u.F i)
          rw [← hd, show u.n - 1 = d + 1 by omega]
        rw [← hFe]
        rfl)
      have hM := hid (show ∀ i, (fun i => !eqS (wriF (abs u) j x i) (u.F i)) i = !eqS ((wd true true true u j d x (Y 0) (Y 1)).F i) (u.F i) from fun i => by rw [hwd.out])
      have hw := hid (whole_any HH.out h6)
      clear hdat hY hd hn
      go_enter Try.func18, Try.ntmps18
      go_upto_region 1 with fail
      generalize hw1 : World.alloc (World.alloc w _) _ = w1
      have B1 := hid (show Below w.heap.size w w1 by rw [← hw1]; exact ((Below.refl _ _).alloc (Nat.le_refl _) _).alloc (by simp) _)
      have bR := hid (show Blk w1 w.heap.size 23 #[.pointer (some ⟨g, 0, none⟩)] by rw [← hw1]; exact (Blk.new _ _ _).alloc _)
      have bS := hid (show Blk w1 (w.heap.size + 1) 32 (sec x) by rw [← hw1]; exact Blk.top rfl (by simp))
      have H1 := hid (HH.out.on B1.out)
      clear hw1
      have qR : w1.cell? ⟨w.heap.size, 0, none⟩ = some (.pointer (some ⟨g, 0, none⟩)) := bR.out.cell 0
      go_wp2_with fail
      refine (columns_any H1.out.cn).mono ?_
      rintro e w2 ⟨rfl, rfl⟩
      go_wp2_with fail
      refine (find_any H1.out.cn _ _).mono ?_
      rintro e w2 ⟨rfl, rfl⟩
      rw [hfe.out, show ((u.n : Int) - 2) = (d : Int) by have := N.out; omega]
      go_wp2_with fail
      refine (whole_any H1.out h6).mono ?_
      rintro e w2 ⟨rfl, h2⟩
      rw [decide_eq_true hl]
      have B2 := hid (B1.out.trans (h2.mono B1.out.size))
      have H2 := hid (H1.out.on h2)
      have bR2 := hid (bR.out.below h2 bR.out.lt)
      have bS2 := hid (bS.out.below h2 bS.out.lt)
      clear h2 qR hl hw
      have qR : w2.cell? ⟨w.heap.size, 0, none⟩ = some (.pointer (some ⟨g, 0, none⟩)) := bR2.out.cell 0
      have q0 := H2.out.q0
      go_wp2_with fail
      refine (clone_any gc 0 u.n cc u.F (by omega) _ H2.out.secs).mono ?_
      rintro e w3 ⟨g2, c2, rfl, own, h3⟩
      have B3 := hid (B2.out.trans (h3.mono B2.out.size))
      have H3 := hid (H2.out.on h3)
      have bR3 := hid (bR2.out.below h3 bR2.out.lt)
      have bS3 := hid (bS2.out.below h3 bS2.out.lt)
      have O3 := hid own
      clear own h3 qR q0
      have q9 := hid (own_lt O3.out)
      go_wp2_with fail
      generalize hw4 : World.alloc w3 _ = w4
      have h4' := hid (show Below w3.heap.size w3 w4 by rw [← hw4]; exact (Below.refl _ _).alloc (Nat.le_refl _) _)
      have bA4 := hid (show Blk w4 w3.heap.size 53 #[.slice (some ⟨g2, 0, none⟩) u.n c2] by rw [← hw4]; exact Blk.new _ _ _)
      have B4 := hid (B3.out.trans (h4'.out.mono B3.out.size))
      have H4 := hid (H3.out.on h4'.out)
      have bR4 := hid (bR3.out.below h4'.out bR3.out.lt)
      have bS4 := hid (bS3.out.below h4'.out bS3.out.lt)
      have O4 := hid (OwnS.below O3.out h4'.out (Nat.le_refl _))
      have A3 := hid (show w.heap.size ≤ w3.heap.size from B3.out.size)
      have A2 := hid (show w.heap.size ≤ w2.heap.size from B2.out.size)
      have A4 := hid (show w.heap.size ≤ w4.heap.size from B4.out.size)
      clear hw4 h4' H1 H2 H3 bR bS bR2 bS2 bR3 bS3 O3 B1 B2 B3
      have hdn : d < u.n := by have := N.out; omega
      have hdn1 : d + 1 < u.n := by have := N.out; omega
      have hjn : j < u.n := by omega
      have hd62 : d ≤ 62 := by omega
      have CH := hid (show ∀ w', Calls Try.prog 37 #[.agg (secs 3 (x3 (u.F d) (u.F (d + 1)) (u.F j))), .int .i64 j, .agg (sec x)] w' fun e w'' => e = .returned (.tuple #[.agg (secs 3 Y), .int .i64 0]) ∧ Below w'.heap.size w' w'' from fun w' => by
        rw [YE.out]
        exact change_ok _ x j (by omega) (x3_lt (HF.out _) (HF.out _) (HF.out _)) HX.out w')
      have wr2' := hid (show IntKind.i64.wrap ((d : Int) + 1) = ((d + 1 : Nat) : Int) by rw [show ((d : Int) + 1) = ((d + 1 : Nat) : Int) by omega]; exact IntWalk.i64_in _ (by omega))
      refine wp_region_c (S := yS [some (.slice (some ⟨g2, 0, none⟩) u.n c2), some (.int .i64 d), some (.pointer (some ⟨g2, d * 64, none⟩)), some (.agg (sec (u.F d))), some (.slice (some ⟨g2, 0, none⟩) u.n c2), some (.int .i64 d), some (.int .i64 ((d + 1 : Nat) : Int)), some (.pointer (some ⟨g2, (d + 1) * 64, none⟩)), some (.agg (sec (u.F (d + 1)))),
          some (.slice (some ⟨g2, 0, none⟩) u.n c2), some (.int .i64 j), some (.pointer (some ⟨g2, j * 64, none⟩)), some (.agg (sec (u.F j))), some (.agg (secs 3 (x3 (u.F d) (u.F (d + 1)) (u.F j)))), some (.int .i64 j), some (.agg (sec x)), some (.tuple #[.agg (secs 3 Y), .int .i64 0]), some (.tuple #[.agg (secs 3 Y), .int .i64 0]), some (.agg (secs 3 Y)), some (.int .i64 0), none, some undef, some (.int .i64 0)] [(20, kPtr)])
        (C := fun dd vs w' => NvC w4 Y (dd 20) (dd 21) (vs 20) w') 23 (by kernel_rfl) (by kernel_rfl) (by kernel_rfl) _ (yS_ok _ fun y hy => by simp only [List.mem_cons, List.not_mem_nil, or_false] at hy; rcases hy with rfl; exact kPtr_ok) ⟨(Below.refl _ _).drew, fun e => by cases e⟩ fun vs => ?_
      simp only [List.take_succ_cons, List.take_zero, List.drop_succ_cons, List.drop_zero]
      refine ⟨.inl ⟨rfl, fun dd w' hd hnx hw hC => ?_⟩, fun e => ?_⟩
      · have hA : w'.cell? ⟨w3.heap.size, 0, none⟩ = some (.slice (some ⟨g2, 0, none⟩) u.n c2) := (bA4.out.below hC.b bA4.out.lt).cell 0
        go_simp
        first | exact ⟨rfl, hC⟩ | exact hC
      have e' : vs 0 = _ := e
      rw [e']
      clear e e'
      simp only [Act.put, List.setIfInBounds_toArray, List.set_cons_succ, List.set_cons_zero]
      refine ⟨.inl ⟨rfl, fun dd w' hd hnx hw hC => ?_⟩, fun e => ?_⟩
      · go_simp
        first | exact ⟨rfl, hC⟩ | exact hC
      have e' : vs 1 = _ := e
      rw [e']
      clear e e'
      simp only [Act.put, List.setIfInBounds_toArray, List.set_cons_succ, List.set_cons_zero]
      refine ⟨.inl ⟨rfl, fun dd w' hd hnx hw hC => ?_⟩, fun e => ?_⟩
      · go_simp
        first | exact ⟨rfl, hC⟩ | exact hC
      have e' : vs 2 = _ := e
      rw [e']
      clear e e'
      simp only [Act.put, List.setIfInBounds_toArray, List.set_cons_succ, List.set_cons_zero]
      refine ⟨.inl ⟨rfl, fun dd w' hd hnx hw hC => ?_⟩, fun e => ?_⟩
      · exact gE_ldS rfl (by have := own_range (OwnS.below O4.out hC.b (Nat.le_refl _)) hdn; rwa [Nat.zero_add] at this) ⟨rfl, hC⟩
      have e' : vs 3 = _ := e
      rw [e']
      clear e e'
      simp only [Act.put, List.setIfInBounds_toArray, List.set_cons_succ, List.set_cons_zero]
      refine ⟨.inl ⟨rfl, fun dd w' hd hnx hw hC => ?_⟩, fun e => ?_⟩
      · have hA : w'.cell? ⟨w3.heap.size, 0, none⟩ = some (.slice (some ⟨g2, 0, none⟩) u.n c2) := (bA4.out.below hC.b bA4.out.lt).cell 0
        go_simp
        first | exact ⟨rfl, hC⟩ | exact hC
      have e' : vs 4 = _ := e
      rw [e']
      clear e e'
      simp only [Act.put, List.setIfInBounds_toArray, List.set_cons_succ, List.set_cons_zero]
      refine ⟨.inl ⟨rfl, fun dd w' hd hnx hw hC => ?_⟩, fun e => ?_⟩
      · go_simp
        first | exact ⟨rfl, hC⟩ | exact hC
      have e' : vs 5 = _ := e
      rw [e']
      clear e e'
      simp only [Act.put, List.setIfInBounds_toArray, List.set_cons_succ, List.set_cons_zero]
      refine ⟨.inl ⟨rfl, fun dd w' hd hnx hw hC => ?_⟩, fun e => ?_⟩
      · have hq : IntKind.i64.wrap ((d : Int) + 1) = ((d + 1 : Nat) : Int) := wr2'.out
        go_simp
        first | exact ⟨rfl, hC⟩ | exact hC
      have e' : vs 6 = _ := e
      rw [e']
      clear e e'
      simp only [Act.put, List.setIfInBounds_toArray, List.set_cons_succ, List.set_cons_zero]
      refine ⟨.inl ⟨rfl, fun dd w' hd hnx hw hC => ?_⟩, fun e => ?_⟩
      · have hq : (0 : Int) ≤ (d : Int) + 1 ∧ (d : Int) + 1 < (u.n : Int) := ⟨by omega, by omega⟩
        go_simp
        first | exact ⟨rfl, hC⟩ | exact hC
      have e' : vs 7 = _ := e
      rw [e']
      clear e e'
      simp only [Act.put, List.setIfInBounds_toArray, List.set_cons_succ, List.set_cons_zero]
      refine ⟨.inl ⟨rfl, fun dd w' hd hnx hw hC => ?_⟩, fun e => ?_⟩
      · exact gE_ldS rfl (by have := own_range (OwnS.below O4.out hC.b (Nat.le_refl _)) hdn1; rwa [Nat.zero_add] at this) ⟨rfl, hC⟩
      have e' : vs 8 = _ := e
      rw [e']
      clear e e'
      simp only [Act.put, List.setIfInBounds_toArray, List.set_cons_succ, List.set_cons_zero]
      refine ⟨.inl ⟨rfl, fun dd w' hd hnx hw hC => ?_⟩, fun e => ?_⟩
      · have hA : w'.cell? ⟨w3.heap.size, 0, none⟩ = some (.slice (some ⟨g2, 0, none⟩) u.n c2) := (bA4.out.below hC.b bA4.out.lt).cell 0
        go_simp
        first | exact ⟨rfl, hC⟩ | exact hC
      have e' : vs 9 = _ := e
      rw [e']
      clear e e'
      simp only [Act.put, List.setIfInBounds_toArray, List.set_cons_succ, List.set_cons_zero]
      refine ⟨.inl ⟨rfl, fun dd w' hd hnx hw hC => ?_⟩, fun e => ?_⟩
      · go_simp
        first | exact ⟨rfl, hC⟩ | exact hC
      have e' : vs 10 = _ := e
      rw [e']
      clear e e'
      simp only [Act.put, List.setIfInBounds_toArray, List.set_cons_succ, List.set_cons_zero]
      refine ⟨.inl ⟨rfl, fun dd w' hd hnx hw hC => ?_⟩, fun e => ?_⟩
      · go_simp
        first | exact ⟨rfl, hC⟩ | exact hC
      have e' : vs 11 = _ := e
      rw [e']
      clear e e'
      simp only [Act.put, List.setIfInBounds_toArray, List.set_cons_succ, List.set_cons_zero]
      refine ⟨.inl ⟨rfl, fun dd w' hd hnx hw hC => ?_⟩, fun e => ?_⟩
      · exact gE_ldS rfl (by have := own_range (OwnS.below O4.out hC.b (Nat.le_refl _)) hjn; rwa [Nat.zero_add] at this) ⟨rfl, hC⟩
      have e' : vs 12 = _ := e
      rw [e']
      clear e e'
      simp only [Act.put, List.setIfInBounds_toArray, List.set_cons_succ, List.set_cons_zero]
      refine ⟨.inl ⟨rfl, fun dd w' hd hnx hw hC => ?_⟩, fun e => ?_⟩
      · exact gE_bldr (x3 (u.F d) (u.F (d + 1)) (u.F j)) 0 [u.F d, u.F (d + 1), u.F j] (Nat.le_refl 3) x3_parts rfl ⟨rfl, hC⟩
      have e' : vs 13 = _ := e
      rw [e']
      clear e e'
      simp only [Act.put, List.setIfInBounds_toArray, List.set_cons_succ, List.set_cons_zero]
      refine ⟨.inl ⟨rfl, fun dd w' hd hnx hw hC => ?_⟩, fun e => ?_⟩
      · go_simp
        first | exact ⟨rfl, hC⟩ | exact hC
      have e' : vs 14 = _ := e
      rw [e']
      clear e e'
      simp only [Act.put, List.setIfInBounds_toArray, List.set_cons_succ, List.set_cons_zero]
      refine ⟨.inl ⟨rfl, fun dd w' hd hnx hw hC => ?_⟩, fun e => ?_⟩
      · exact gE_ldS rfl (by have := (bS4.out.below hC.b bS4.out.lt).range 0 64; rwa [Nat.zero_add, show (64 : Nat) = (sec x).size from size_sec.symm, Array.extract_size] at this) ⟨rfl, hC⟩
      have e' : vs 15 = _ := e
      rw [e']
      clear e e'
      simp only [Act.put, List.setIfInBounds_toArray, List.set_cons_succ, List.set_cons_zero]
      refine ⟨.inl ⟨rfl, fun dd w' hd hnx hw hC => ?_⟩, fun e => ?_⟩
      · go_simp
        refine (CH.out w').mono ?_
        rintro e w5 ⟨rfl, h5⟩
        exact ⟨_, rfl, rfl, hC.on h5⟩
      have e' : vs 16 = _ := e
      rw [e']
      clear e e'
      simp only [Act.put, List.setIfInBounds_toArray, List.set_cons_succ, List.set_cons_zero]
      refine ⟨.inl ⟨rfl, fun dd w' hd hnx hw hC => ?_⟩, fun e => ?_⟩
      · go_simp
        first | exact ⟨rfl, hC⟩ | exact hC
      have e' : vs 17 = _ := e
      rw [e']
      clear e e'
      simp only [Act.put, List.setIfInBounds_toArray, List.set_cons_succ, List.set_cons_zero]
      refine ⟨.inl ⟨rfl, fun dd w' hd hnx hw hC => ?_⟩, fun e => ?_⟩
      · go_simp
        first | exact ⟨rfl, hC⟩ | exact hC
      have e' : vs 18 = _ := e
      rw [e']
      clear e e'
      simp only [Act.put, List.setIfInBounds_toArray, List.set_cons_succ, List.set_cons_zero]
      refine ⟨.inl ⟨rfl, fun dd w' hd hnx hw hC => ?_⟩, fun e => ?_⟩
      · go_simp
        first | exact ⟨rfl, hC⟩ | exact hC
      have e' : vs 19 = _ := e
      rw [e']
      clear e e'
      simp only [Act.put, List.setIfInBounds_toArray, List.set_cons_succ, List.set_cons_zero]
      refine ⟨.inl ⟨rfl, fun dd w' hd hnx hw hC => ?_⟩, fun e => ?_⟩
      · have h21 : dd 21 = false := hnx 21 (by kernel_rfl)
        have ha : Below w'.heap.size w' (w'.alloc (.cells (secs 3 z3) 75)) := (Below.refl _ _).alloc (Nat.le_refl _) _
        refine gE_alR ⟨⟨_, rfl⟩, hC.b.trans (ha.mono hC.b.size), fun _ => ⟨w'.heap.size, rfl, hC.b.size, ?_⟩⟩
        show Blk _ _ _ (secs 3 (if dd 21 then Y else z3))
        rw [h21]
        exact Blk.new _ _ _
      obtain ⟨bX, e'⟩ : ∃ b : Nat, vs 20 = .pointer (some ⟨b, 0, none⟩) := e
      rw [e']
      have EX := hid e'
      clear e'
      simp only [Act.put, List.setIfInBounds_toArray, List.set_cons_succ, List.set_cons_zero]
      apply cstR bX Y
      · rfl
      · rfl
      · rfl
      · intro dd w' hd hw hC
        have h20 : dd 20 = true := hw 20 (by kernel_rfl)
        exact ⟨⟨_, (hC.get h20 EX.out).2⟩, rfl, hC.put h20 EX.out⟩
      intro e
      have e' : vs 21 = _ := e
      rw [e']
      clear e e'
      simp only [Act.put, List.setIfInBounds_toArray, List.set_cons_succ, List.set_cons_zero]
      refine ⟨.inl ⟨rfl, fun dd w' hd hnx hw hC => ?_⟩, fun e => ?_⟩
      · go_simp
        first | exact ⟨rfl, hC⟩ | exact hC
      have e' : vs 22 = _ := e
      rw [e']
      clear e e'
      simp only [Act.put, List.setIfInBounds_toArray, List.set_cons_succ, List.set_cons_zero]
      intro dd w5 hall hC
      have hbk := (hC.get (hall 20 (by omega)) EX.out).2
      rw [hall 21 (by omega)] at hbk
      have bX5 := hid (show Blk w5 bX 75 (secs 3 Y) from hbk)
      have BX := hid (hC.get (hall 20 (by omega)) EX.out).1
      have B5 := hid (B4.out.trans (hC.b.mono B4.out.size))
      have H5 := hid (H4.out.on hC.b)
      have bR5 := hid (bR4.out.below hC.b bR4.out.lt)
      have bA5 := hid (bA4.out.below hC.b bA4.out.lt)
      have O5 := hid (OwnS.below O4.out hC.b (Nat.le_refl _))
      clear hbk hC EX hall H4 bR4 bS4 bA4 O4 B4 CH
      go_wp2_with fail
      have nR := hid (show w.heap.size ≠ gc by have := HH.out.cLt; omega)
      have nX := hid (show bX ≠ gc by have := HH.out.cLt; have := BX.out; have := A4.out; omega)
      refine wp_region_set (D := WrD w5 g gc cc gg cg w.heap.size bX u j d x Y) (fun k => k == 23 || k == 25 || k == 27) 28 (fun k hk => by simp at hk; omega) (by kernel_rfl) (by kernel_rfl) (by kernel_rfl)
        (fun d1 d2 w' h hD => by unfold WrD at hD ⊢; rw [← h 23 rfl, ← h 25 rfl, ← h 27 rfl]; exact hD) ?_ ?_
      · exact ⟨by rw [wd_0]; exact H5.out.drew, Turn.drew _, bR5.out.drew.cell 0, bX5.out.drew⟩
      simp only [List.take_succ_cons, List.take_zero, List.drop_succ_cons, List.drop_zero]
      apply wpM_val
      · rfl
      · rfl
      · intro dd w' hw'
        have hcell := hw'.2.2.1
        go_simp
        first | exact rfl | exact ⟨rfl, hw'⟩
      simp only [Act.put, List.setIfInBounds_toArray, List.set_cons_succ, List.set_cons_zero]
      apply wpM_val
      · rfl
      · rfl
      · intro dd w' hw'
        go_simp
        first | exact rfl | exact ⟨rfl, hw'⟩
      simp only [Act.put, List.setIfInBounds_toArray, List.set_cons_succ, List.set_cons_zero]
      apply wpM_val
      · rfl
      · rfl
      · intro dd w' hw'
        go_simp
        first | exact rfl | exact ⟨rfl, hw'⟩
      simp only [Act.put, List.setIfInBounds_toArray, List.set_cons_succ, List.set_cons_zero]
      apply wpM_val
      · rfl
      · rfl
      · intro dd w' hw'
        have q0 : w'.cell? ⟨g, 0, none⟩ = some (.slice (some ⟨gc, 0, none⟩) u.n cc) := hw'.1.q0
        go_simp
        first | exact rfl | exact ⟨rfl, hw'⟩
      simp only [Act.put, List.setIfInBounds_toArray, List.set_cons_succ, List.set_cons_zero]
      apply wpM_val
      · rfl
      · rfl
      · intro dd w' hw'
        go_simp
        first | exact rfl | exact ⟨rfl, hw'⟩
      simp only [Act.put, List.setIfInBounds_toArray, List.set_cons_succ, List.set_cons_zero]
      apply wpM_val
      · rfl
      · rfl
      · intro dd w' hw'
        have hcell := hw'.2.2.1
        go_simp
        first | exact rfl | exact ⟨rfl, hw'⟩
      simp only [Act.put, List.setIfInBounds_toArray, List.set_cons_succ, List.set_cons_zero]
      apply wpM_val
      · rfl
      · rfl
      · intro dd w' hw'
        go_simp
        first | exact rfl | exact ⟨rfl, hw'⟩
      simp only [Act.put, List.setIfInBounds_toArray, List.set_cons_succ, List.set_cons_zero]
      apply wpM_val
      · rfl
      · rfl
      · intro dd w' hw'
        go_simp
        first | exact rfl | exact ⟨rfl, hw'⟩
      simp only [Act.put, List.setIfInBounds_toArray, List.set_cons_succ, List.set_cons_zero]
      apply wpM_val
      · rfl
      · rfl
      · intro dd w' hw'
        have q0 : w'.cell? ⟨g, 0, none⟩ = some (.slice (some ⟨gc, 0, none⟩) u.n cc) := hw'.1.q0
        go_simp
        first | exact rfl | exact ⟨rfl, hw'⟩
      simp only [Act.put, List.setIfInBounds_toArray, List.set_cons_succ, List.set_cons_zero]
      apply wpM_val
      · rfl
      · rfl
      · intro dd w' hw'
        go_simp
        first | exact rfl | exact ⟨rfl, hw'⟩
      simp only [Act.put, List.setIfInBounds_toArray, List.set_cons_succ, List.set_cons_zero]
      apply wpM_val
      · rfl
      · rfl
      · intro dd w' hw'
        have hcell := hw'.2.2.1
        go_simp
        first | exact rfl | exact ⟨rfl, hw'⟩
      simp only [Act.put, List.setIfInBounds_toArray, List.set_cons_succ, List.set_cons_zero]
      apply wpM_val
      · rfl
      · rfl
      · intro dd w' hw'
        go_simp
        first | exact rfl | exact ⟨rfl, hw'⟩
      simp only [Act.put, List.setIfInBounds_toArray, List.set_cons_succ, List.set_cons_zero]
      apply wpM_val
      · rfl
      · rfl
      · intro dd w' hw'
        go_simp
        first | exact rfl | exact ⟨rfl, hw'⟩
      simp only [Act.put, List.setIfInBounds_toArray, List.set_cons_succ, List.set_cons_zero]
      apply wpM_val
      · rfl
      · rfl
      · intro dd w' hw'
        have q0 : w'.cell? ⟨g, 0, none⟩ = some (.slice (some ⟨gc, 0, none⟩) u.n cc) := hw'.1.q0
        go_simp
        first | exact rfl | exact ⟨rfl, hw'⟩
      simp only [Act.put, List.setIfInBounds_toArray, List.set_cons_succ, List.set_cons_zero]
      apply wpM_val
      · rfl
      · rfl
      · intro dd w' hw'
        go_simp
        first | exact rfl | exact ⟨rfl, hw'⟩
      simp only [Act.put, List.setIfInBounds_toArray, List.set_cons_succ, List.set_cons_zero]
      apply wpM_val
      · rfl
      · rfl
      · intro dd w' hw'
        have hq : IntKind.i64.wrap ((d : Int) + 1) = ((d + 1 : Nat) : Int) := wr2'.out
        go_simp
        first | exact rfl | exact ⟨rfl, hw'⟩
      simp only [Act.put, List.setIfInBounds_toArray, List.set_cons_succ, List.set_cons_zero]
      apply wpM_val
      · rfl
      · rfl
      · intro dd w' hw'
        go_simp
        first | exact rfl | exact ⟨rfl, hw'⟩
      simp only [Act.put, List.setIfInBounds_toArray, List.set_cons_succ, List.set_cons_zero]
      apply mldm (f := Y 2) (o := 128)
      · rfl
      · rfl
      · rfl
      · intro dd w' hw'
        exact range_secs (i := 2) hw'.2.2.2 (by decide)
      simp only [Act.put, List.setIfInBounds_toArray, List.set_cons_succ, List.set_cons_zero]
      apply wpM_val
      · rfl
      · rfl
      · intro dd w' hw'
        go_simp
        first | exact rfl | exact ⟨rfl, hw'⟩
      simp only [Act.put, List.setIfInBounds_toArray, List.set_cons_succ, List.set_cons_zero]
      apply mldm (f := Y 0) (o := 0)
      · rfl
      · rfl
      · rfl
      · intro dd w' hw'
        exact range_secs (i := 0) hw'.2.2.2 (by decide)
      simp only [Act.put, List.setIfInBounds_toArray, List.set_cons_succ, List.set_cons_zero]
      apply wpM_val
      · rfl
      · rfl
      · intro dd w' hw'
        go_simp
        first | exact rfl | exact ⟨rfl, hw'⟩
      simp only [Act.put, List.setIfInBounds_toArray, List.set_cons_succ, List.set_cons_zero]
      apply mldm (f := Y 1) (o := 64)
      · rfl
      · rfl
      · rfl
      · intro dd w' hw'
        exact range_secs (i := 1) hw'.2.2.2 (by decide)
      simp only [Act.put, List.setIfInBounds_toArray, List.set_cons_succ, List.set_cons_zero]
      apply wpM_val
      · rfl
      · rfl
      · intro dd w' hw'
        go_simp
        first | exact rfl | exact ⟨rfl, hw'⟩
      simp only [Act.put, List.setIfInBounds_toArray, List.set_cons_succ, List.set_cons_zero]
      apply msto gc j (Y 2)
      · rfl
      · rfl
      · rfl
      · rfl
      · intro dd w' hd hw'
        refine ⟨0, u.n, cc, _, hw'.1.cols, hjn, fun w2 o2 g2 => ?_⟩
        have e2 : Y 2 = x := by rw [YE.out]; rfl
        have hd' : dd 23 = false := hd
        rw [e2] at o2
        refine hw'.next nR.out nX.out o2 g2 ?_
        rw [hd']
        exact wd_1
      simp only [Act.put, List.setIfInBounds_toArray, List.set_cons_succ, List.set_cons_zero]
      apply wpM_val
      · rfl
      · rfl
      · intro dd w' hw'
        go_simp
        first | exact rfl | exact ⟨rfl, hw'⟩
      simp only [Act.put, List.setIfInBounds_toArray, List.set_cons_succ, List.set_cons_zero]
      apply msto gc d (Y 0)
      · rfl
      · rfl
      · rfl
      · rfl
      · intro dd w' hd hw'
        refine ⟨0, u.n, cc, _, hw'.1.cols, hdn, fun w2 o2 g2 => ?_⟩
        have hd' : dd 25 = false := hd
        refine hw'.next nR.out nX.out o2 g2 ?_
        rw [hd']
        exact wd_2 (by have := JD.out; omega)
      simp only [Act.put, List.setIfInBounds_toArray, List.set_cons_succ, List.set_cons_zero]
      apply wpM_val
      · rfl
      · rfl
      · intro dd w' hw'
        have hq : (0 : Int) ≤ (d : Int) + 1 ∧ (d : Int) + 1 < (u.n : Int) := ⟨by omega, by omega⟩
        go_simp
        first | exact rfl | exact ⟨rfl, hw'⟩
      simp only [Act.put, List.setIfInBounds_toArray, List.set_cons_succ, List.set_cons_zero]
      apply msto gc (d + 1) (Y 1)
      · rfl
      · rfl
      · rfl
      · rfl
      · intro dd w' hd hw'
        refine ⟨0, u.n, cc, _, hw'.1.cols, hdn1, fun w2 o2 g2 => ?_⟩
        have hd' : dd 27 = false := hd
        refine hw'.next nR.out nX.out o2 g2 ?_
        rw [hd']
        exact wd_3 (by have := JD.out; omega)
      simp only [Act.put, List.setIfInBounds_toArray, List.set_cons_succ, List.set_cons_zero]
      refine wpM_nil fun w6 hw6 => ?_
      have P6 : Sq w6 g gc cc gg cg (wd true true true u j d x (Y 0) (Y 1)) := hw6.1
      have H6 := hid P6
      have T6 := hid hw6.2.1
      have R6 := hid hw6.2.2.1
      have A6 := hid (bA5.out.turn T6.out (show ¬ w3.heap.size = gc by have := HH.out.cLt; have := A3.out; omega))
      have O6 := hid (ownS_turn O5.out T6.out fun b e => by cases e; show ¬ g2 = gc; have := HH.out.cLt; have := q9.out.2.1; have := A2.out; omega)
      clear hw6 P6 bA5 O5 bR5 bX5 H5
      have qR := R6.out
      go_wp2_with fail
      refine (those_box (some ⟨g, 0, none⟩) _ ⟨_, _, rfl⟩ w6).mono ?_
      rintro e w7 ⟨rfl, h7, k1, k2⟩
      have l1 := hid (World.block_lt_of_cell? w6 _ R6.out)
      have l2 := hid A6.out.lt
      have CO := hid (collect_any u.n w6.heap.size (w6.heap.size + 1) 39 #[.pointer (some ⟨w.heap.size, 0, none⟩), .pointer (some ⟨w3.heap.size, 0, none⟩)] (.pointer (some ⟨g, 0, none⟩)) (fun i => !eqS ((wd true true true u j d x (Y 0) (Y 1)).F i) (u.F i)) w7 h6 (enters_of Try.func39 (by kernel_rfl) rfl)
        (fun k hk W hW => by
          have hb : Below w6.heap.size w6 W := h7.trans (hW.mono h7.size)
          exact other_any (H6.out.on hb) hk ((hb.cell (p := ⟨w.heap.size, 0, none⟩) l1.out).trans R6.out) ((A6.out.below hb l2.out).cell 0) rfl (OwnS.below O6.out hb (Nat.le_refl _)))
        k1.cell k2.cell (H6.out.on h7).cn)
      have H7 := hid (H6.out.on h7)
      have B7 := hid h7
      have S6 := hid (show w.heap.size ≤ w6.heap.size from Nat.le_trans B5.out.size T6.out.size)
      clear h7 k1 k2 qR
      go_wp2_with fail
      refine CO.out.mono ?_
      rintro e w8 ⟨v, rfl, o8, h8⟩
      have H8 := hid (H7.out.on h8)
      have O8 := hid o8
      have B8 := hid (B7.out.trans (h8.mono B7.out.size))
      obtain ⟨A9, c9, rfl⟩ := OwnI.len o8
      clear o8 h8 CO
      go_wp2_with fail
      go_ret2
      have eL : wriL (abs u) j x = (List.range u.n).filter fun i => !eqS ((wd true true true u j d x (Y 0) (Y 1)).F i) (u.F i) := by
        unfold wriL
        rw [if_pos hE.out]
        exact List.filter_congr fun i _ => hM.out i
      have eU : wriU u j x = wd true true true u j d x (Y 0) (Y 1) := by
        unfold wriU
        rw [if_pos hE.out, hwd.out]
        rfl
      refine ⟨A9, c9, by rw [eL, hE.out]; rfl, by rw [eL]; exact row_low O8.out (Nat.le_trans S6.out B7.out.size), by rw [eU]; exact H8.out, ?_⟩
      exact ((Turn.of_new (S := fun k => k = gc ∨ k = gg) B5.out).trans (T6.out.mono fun k e => .inl e) fun _ e => .inl e).trans (Turn.of_new (S := fun k => k = gc ∨ k = gg) B8.out) fun _ e => .inl e
    · have hE := hid (show wriE (abs u) c = 5 by unfold wriE; rw [if_pos hdat, if_neg fun e => hl (abs_lost.symm.trans e)])
      clear hdat hd hn wr1 wr2
      go_enter Try.func18, Try.ntmps18
      go_upto_region 1 with fail
      generalize hw1 : World.alloc (World.alloc w _) _ = w1
      have B1 := hid (show Below w.heap.size w w1 by rw [← hw1]; exact ((Below.refl _ _).alloc (Nat.le_refl _) _).alloc (by simp) _)
      have bR := hid (show Blk w1 w.heap.size 23 #[.pointer (some ⟨g, 0, none⟩)] by rw [← hw1]; exact (Blk.new _ _ _).alloc _)
      have H1 := hid (HH.out.on B1.out)
      clear hw1
      have qR : w1.cell? ⟨w.heap.size, 0, none⟩ = some (.pointer (some ⟨g, 0, none⟩)) := bR.out.cell 0
      go_wp2_with fail
      refine (columns_any H1.out.cn).mono ?_
      rintro e w2 ⟨rfl, rfl⟩
      go_wp2_with fail
      refine (find_any H1.out.cn _ _).mono ?_
      rintro e w2 ⟨rfl, rfl⟩
      rw [hfe.out]
      go_wp2_with fail
      refine (whole_any H1.out h6).mono ?_
      rintro e w2 ⟨rfl, h2⟩
      rw [decide_eq_false hl]
      have B2 := hid (B1.out.trans (h2.mono B1.out.size))
      have H2 := hid (H1.out.on h2)
      clear h2 qR hl
      go_wp2_with fail
      go_ret2
      exact WriP.no 5 hE.out (by omega) H2.out B2.out
  · have hE := hid (show wriE (abs u) c = 2 by unfold wriE; rw [if_neg hdat])
    have hfe := hid (show findE u.n c ((u.n : Int) - 2) = 2 by
      unfold findE
      rw [if_neg (by omega), if_neg (by have h := hdat; unfold Rw.dat at h; have e : (abs u).n = u.n := rfl; rw [e] at h; omega)])
    clear hdat hd hn wr1 wr2
    go_enter Try.func18, Try.ntmps18
    go_upto_region 1 with fail
    generalize hw1 : World.alloc (World.alloc w _) _ = w1
    have B1 := hid (show Below w.heap.size w w1 by rw [← hw1]; exact ((Below.refl _ _).alloc (Nat.le_refl _) _).alloc (by simp) _)
    have bR := hid (show Blk w1 w.heap.size 23 #[.pointer (some ⟨g, 0, none⟩)] by rw [← hw1]; exact (Blk.new _ _ _).alloc _)
    have H1 := hid (HH.out.on B1.out)
    clear hw1
    have qR : w1.cell? ⟨w.heap.size, 0, none⟩ = some (.pointer (some ⟨g, 0, none⟩)) := bR.out.cell 0
    go_wp2_with fail
    refine (columns_any H1.out.cn).mono ?_
    rintro e w2 ⟨rfl, rfl⟩
    go_wp2_with fail
    refine (find_any H1.out.cn _ _).mono ?_
    rintro e w2 ⟨rfl, rfl⟩
    rw [hfe.out]
    go_wp2_with fail
    go_ret2
    exact WriP.no 2 hE.out (by omega) H1.out B1.out
end
end StM
end Go.Proofs.Ytlbfjnddbdpdpaa
