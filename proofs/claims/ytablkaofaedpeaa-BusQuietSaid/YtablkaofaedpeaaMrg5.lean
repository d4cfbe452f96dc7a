/-
  Lists of elements: a literal of two elements.
  The law's full, given and two.
  The law's two: a bus of two members.
  A region that draws its order, as in XRegC; that what has come up is closed is at hand.
  The law's awake, in plain words.
  The law's awake.
  The law BusSees: what a step sets is seen by each I/O from its number on, and by none ahead.
  The law's over: an act over a bus of the program's.
  A bus in plain words: what an act leaves of steps, log and power; without steps; while the power is gone.
  The law BusOff: from a crash on, till the power is there again, each I/O is ErrOff, and changes nothing.
  What comes in, number by number.
  What comes in: rows of n bytes by value.
  Slices of bytes that come in.
  Slices of slices of bytes that come in.
-/
import Derived.Test.YtablkaofaedpeaaMrg4
import Derived.Deep.Slices
import Derived.OpenShut
import Derived.ChangeMaps5
import Derived.ChangeSlices
set_option linter.unusedVariables false
set_option linter.unusedSimpArgs false
set_option maxRecDepth 100000
namespace Go.Proofs.Ytablkaofaedpeaa
open Go.ChangeShapes Go.WideShapes Go.ChangeAt Go.RowKit
section
variable {α : Type} {k : Nat} {en : α → List Value} {E L : TypeId}
theorem run_lit2 (hE : EltX E k en) (hu : Try.prog.underlying L = some (.slice E)) (x y : α) {v u : Value} (hv : v.cells.toList = en x) (hy : u.cells.toList = en y) (hk : k ≤ 1000) (w : World) :
    (Instr.buildSlice L 2 #[(0, v), (1, u)]).run Try.prog w = .ok (.slice (some ⟨w.heap.size, 0, none⟩) 2 2) (w.alloc (.cells (en x ++ en y).toArray E)) := by
  obtain ⟨ie, z, hi, hz, h1, h2, h3⟩ := hE.info
  refine run_buildSlice w L E 2 _ _ ie z hu hi hz (by rw [h1]; omega) (by rw [h1]; have := hE.pos; omega) ?_
  have hcs : v.cells.size = k := by rw [← Array.length_toList, hv, hE.len]
  have hcu : u.cells.size = k := by rw [← Array.length_toList, hy, hE.len]
  have := fill_consec (place := fun i => some (i * ie.size, ie.size)) [v, u] [(0, k), (k, k)] [] (((Array.range (2 * ie.size)).map (z.cells[· % z.cells.size]!)).toList) 0 ⟨rfl, by simp, trivial⟩ (by simp [hcs, hcu]) (by simp [h1]; omega) (fun j hj => by
    have : j = 0 ∨ j = 1 := by simp at hj; omega
    rcases this with rfl | rfl
    · simp [h1]
    · simp [h1])
  simp only [List.nil_append, List.map_cons, List.map_nil, List.sum_cons, List.sum_nil, Nat.add_zero, List.flatMap_cons, List.flatMap_nil, List.append_nil, hv, hy] at this
  rw [List.drop_eq_nil_of_le (by simp [h1]; omega), List.append_nil, Array.toArray_toList] at this
  exact this
/-- What such a literal is. -/
theorem sli_lit2 {S : Nat → Prop} (hE : EltX E k en) (x y : α) (w : World) (hS : S w.heap.size) : Sli k en S (w.alloc (.cells (en x ++ en y).toArray E)) (some ⟨w.heap.size, 0, none⟩) [x, y] 2 2 where
  len := rfl
  cap := Nat.le_refl _
  max := by unfold maxLen; omega
  none e := by cases e
  lst _ := ⟨w.heap.size, 0, rfl, hS, by simp, fun i z hi j u hj => by
    have hb : Blk (w.alloc (.cells (en x ++ en y).toArray E)) w.heap.size E (en x ++ en y).toArray := Blk.new _ _ _
    have hjl := (List.getElem?_eq_some_iff.1 hj).1
    rcases i with _ | _ | i
    · simp only [List.getElem?_cons_zero, Option.some.injEq] at hi
      subst hi
      rw [hE.len] at hjl
      rw [Nat.zero_add, Nat.zero_mul, Nat.zero_add, hb.cell, List.getElem?_toArray, List.getElem?_append_left (by rw [hE.len]; exact hjl)]
      exact hj
    · simp only [List.getElem?_cons_succ, List.getElem?_cons_zero, Option.some.injEq] at hi
      subst hi
      rw [Nat.zero_add, Nat.zero_add, Nat.one_mul, hb.cell, List.getElem?_toArray, List.getElem?_append_right (by rw [hE.len]; omega), hE.len, Nat.add_sub_cancel_left]
      exact hj
    · simp at hi⟩
variable {ops : Array Oper} {Q : Exit → Act → World → Prop} {a : Act} {w : World} {rest : List Oper} {dst : Option Tmp} {ty : TypeId} {pos : String} {after : Array Edge} {o p : Operand} {x y : α} {v u : Value}
theorem wlit2 (hE : EltX E k en) (hu : Try.prog.underlying L = some (.slice E)) (hk : k ≤ 1000) (ho : a.eval o = v) (hp : a.eval p = u) (hv : v.cells.toList = en x) (hy : u.cells.toList = en y)
    (h : wpList Try.prog ops Q rest (a.put dst (.slice (some ⟨w.heap.size, 0, none⟩) 2 2)) (w.alloc (.cells (en x ++ en y).toArray E))) :
    wpList Try.prog ops Q (⟨dst, .buildSlice L 2 #[(0, o), (1, p)], ty, pos, after, none⟩ :: rest) a w := by
  have hm : (#[(0, o), (1, p)] : Array (Nat × Operand)).map (fun (i, x) => (i, a.eval x)) = #[(0, v), (1, u)] := by
    simp only [List.map_toArray, List.map_cons, List.map_nil, ho, hp]
  refine wpList_plain rfl fun K hK => ?_
  unfold Oper.wp execOp
  simp only [Sem.run_bind, hm, run_lit2 hE hu x y hv hy hk w, Result.andThen_ok, Sem.run_pure]
  exact hK _ _ h
end
end Go.Proofs.Ytablkaofaedpeaa
set_option maxRecDepth 100000
namespace Go.Proofs.Ytablkaofaedpeaa
open Go.ChangeShapes Go.WideShapes Go.ChangeAt Go.RowKit
attribute [local go_sem] Gives GivesE
namespace BuP
open BuM MbM MbP
set_option maxRecDepth 100000 in
theorem full13_any (x : Nat) (w : World) : Calls Try.prog 13 #[.int .u8 (x : Nat)] w fun e w' => e = .returned (.agg (ar 64 fun _ => x)) ∧ Below w.heap.size w w' := by
  go_enter Try.func13, Try.ntmps13
  go_upto_region 2 with (with_reducible apply alA tSe)
  generalize hw3 : World.alloc (World.alloc w _) _ = w3
  have b1 : Blk w3 w.heap.size 30 (ar 64 fun _ => 0) := by rw [← hw3]; exact (Blk.new _ _ _).alloc _
  have b2 : Blk w3 (w.heap.size + 1) 30 (ar 64 fun _ => 0) := by rw [← hw3]; exact Blk.top rfl (by simp)
  have hb : Below w.heap.size w w3 := by rw [← hw3]; exact ((Below.refl _ _).alloc (Nat.le_refl _) _).alloc (by simp) _
  clear hw3
  go_wp2_with fail
  go_loopw [4] (fun i wr => ∃ k : Nat, k ≤ 64 ∧ i = .int .i64 k ∧ Blk wr w.heap.size 30 (ar 64 fun _ => 0) ∧ Blk wr (w.heap.size + 1) 30 (ar 64 (upTo k (fun _ => 0) fun _ => x)) ∧ Below w.heap.size w wr) (fun i _ => 64 - (intOf i).toNat)
  case atStart => exact ⟨0, by omega, rfl, b1, by rw [upTo_zero]; exact b2, hb⟩
  case round =>
    clear b1 b2 hb
    obtain ⟨k, hk, rfl, b1, b2, hb⟩ := hrel
    by_cases hlt : k < 64
    · have tk : (k : Int) < 64 := by omega
      have c3 := b2.frozen k
      have e3 := (b2.cell k).trans (get_ar (show k < 64 by omega))
      go_wp2_with fail
      go_roundw
      case rel => exact ⟨k + 1, by omega, by go_num, b1.setCell_other (by show w.heap.size + 1 ≠ _; omega) _, upTo_step (b2.setCell_same k _), hb.setCell (show w.heap.size ≤ w.heap.size + 1 by omega) _⟩
      case measure => simp [intOf]; omega
    · have tk : decide ((k : Int) < 64) = false := by simp; omega
      obtain rfl : k = 64 := by omega
      rw [show ar 64 (upTo 64 (fun _ => 0) fun _ => x) = ar 64 fun _ => x from ar_ext fun j hj => by unfold upTo; rw [if_pos hj]] at b2
      have b4 := b1.setRow_same (ar 64 fun _ => x)
      have B4 := hid (below_setRow hb (Nat.le_refl w.heap.size) (ar 64 fun _ => x))
      go_wp2_with (first | ((with_reducible apply ldA tSe); rfl; exact b2) | ((with_reducible apply stA tSe); rfl; rfl; exact b1))
      apply ret_ar tSe Try.results13
      · rfl
      · rfl
      · exact b4
      exact ⟨rfl, B4.out⟩
/-! ### The chapter's steps -/
def gs1 : Stp := ⟨1, 1, 0, 2, 0, fun _ => 1, []⟩
def gs2 : Stp := ⟨3, 6, 0, 0, 0, fun _ => 0, [0, 1]⟩
theorem built_g1 : Try.prog.built 67 [(0, .int .i64 1), (1, .int .i64 1), (3, .int .i64 2), (5, .agg (ar 64 fun _ => 1))] = some (stL (gs1, ⟨none, 0⟩)).toArray := by kernel_rfl
theorem built_g2 (A : Option Addr) : Try.prog.built 67 [(0, .int .i64 3), (1, .int .i64 6), (6, .slice A 2 2)] = some (stL (gs2, ⟨A, 2⟩)).toArray := by kernel_rfl
section
variable {ops : Array Oper} {Q : Exit → Act → World → Prop} {a : Act} {w : World} {rest : List Oper} {dst : Option Tmp} {ty : TypeId} {pos : String} {after : Array Edge} {x : Operand} {A : Option Addr}
theorem wblG1 (hx : a.eval x = .agg (ar 64 fun _ => 1)) (hk : wpList Try.prog ops Q rest (a.put dst (.agg (stL (gs1, ⟨none, 0⟩)).toArray)) w) : wpList Try.prog ops Q (⟨dst, .build 67 #[(0, .const (.int .i64 1)), (1, .const (.int .i64 1)), (3, .const (.int .i64 2)), (5, x)], ty, pos, after, none⟩ :: rest) a w := by
  have hr : (Instr.build 67 #[(0, .int .i64 1), (1, .int .i64 1), (3, .int .i64 2), (5, .agg (ar 64 fun _ => 1))]).run Try.prog w = .ok (.agg (stL (gs1, ⟨none, 0⟩)).toArray) w := run_build w _ _ _ built_g1
  have hm : (#[(0, .const (.int .i64 1)), (1, .const (.int .i64 1)), (3, .const (.int .i64 2)), (5, x)] : Array (Nat × Operand)).map (fun (i, x) => (i, a.eval x)) = #[(0, .int .i64 1), (1, .int .i64 1), (3, .int .i64 2), (5, .agg (ar 64 fun _ => 1))] := by
    simp only [List.map_toArray, List.map_cons, List.map_nil, hx]; rfl
  refine wpList_plain rfl fun K hK => ?_
  unfold Oper.wp execOp
  simp only [Sem.run_bind, hm, hr, Result.andThen_ok, Sem.run_pure]
  exact hK _ _ hk
theorem wblG2 (hx : a.eval x = .slice A 2 2) (hk : wpList Try.prog ops Q rest (a.put dst (.agg (stL (gs2, ⟨A, 2⟩)).toArray)) w) : wpList Try.prog ops Q (⟨dst, .build 67 #[(0, .const (.int .i64 3)), (1, .const (.int .i64 6)), (6, x)], ty, pos, after, none⟩ :: rest) a w := by
  have hr : (Instr.build 67 #[(0, .int .i64 3), (1, .int .i64 6), (6, .slice A 2 2)]).run Try.prog w = .ok (.agg (stL (gs2, ⟨A, 2⟩)).toArray) w := run_build w _ _ _ (built_g2 A)
  have hm : (#[(0, .const (.int .i64 3)), (1, .const (.int .i64 6)), (6, x)] : Array (Nat × Operand)).map (fun (i, x) => (i, a.eval x)) = #[(0, .int .i64 3), (1, .int .i64 6), (6, .slice A 2 2)] := by
    simp only [List.map_toArray, List.map_cons, List.map_nil, hx]; rfl
  refine wpList_plain rfl fun K hK => ?_
  unfold Oper.wp execOp
  simp only [Sem.run_bind, hm, hr, Result.andThen_ok, Sem.run_pure]
  exact hK _ _ hk
end
set_option maxHeartbeats 1000000 in
set_option maxRecDepth 100000 in
theorem given_any (w : World) : Calls Try.prog 9 #[] w fun e w' => ∃ gS gB, e = .returned (.slice (some ⟨gS, 0, none⟩) 2 2) ∧ Sli 70 stL (fun q => w.heap.size ≤ q) w' (some ⟨gS, 0, none⟩) [(gs1, ⟨none, 0⟩), (gs2, ⟨some ⟨gB, 0, none⟩, 2⟩)] 2 2 ∧
      Arg w' (some ⟨gB, 0, none⟩) [0, 1] 2 2 ∧ w.heap.size ≤ gB ∧ gS ≠ gB ∧ Below w.heap.size w w' := by
  go_enter Try.func9, Try.ntmps9
  go_wp2_with fail
  refine (full13_any 1 w).mono ?_
  rintro e w1 ⟨rfl, h1⟩
  go_wp2_with (first
    | ((with_reducible apply wblG1); rfl)
    | ((with_reducible apply wlit2 eltBy undBy (x := 0) (y := 1)); omega; rfl; rfl; rfl; rfl)
    | ((with_reducible apply wblG2); rfl)
    | ((with_reducible apply wlit2 eltStP undStP (x := (gs1, ⟨none, 0⟩)) (y := (gs2, ⟨some ⟨w1.heap.size, 0, none⟩, 2⟩))); omega; rfl; rfl; rfl; rfl))
  go_ret
  have hs := h1.size
  have b2 := h1.alloc hs (.cells (byL 0 ++ byL 1).toArray 5)
  have b3 := b2.alloc (by simp; omega) (.cells (stL (gs1, ⟨none, 0⟩) ++ stL (gs2, ⟨some ⟨w1.heap.size, 0, none⟩, 2⟩)).toArray 67)
  have l1 := sli_lit2 (S := fun q => w.heap.size ≤ q) eltBy 0 1 w1 hs
  have l2 := sli_lit2 (S := fun q => w.heap.size ≤ q) eltStP (gs1, ⟨none, 0⟩) (gs2, ⟨some ⟨w1.heap.size, 0, none⟩, 2⟩) (w1.alloc (.cells (byL 0 ++ byL 1).toArray 5)) (by simp; omega)
  refine ⟨w1.heap.size + 1, w1.heap.size, by simp, ?_, ?_, hs, by omega, b3⟩
  · have := l2
    rw [show (w1.alloc (.cells (byL 0 ++ byL 1).toArray 5)).heap.size = w1.heap.size + 1 by simp] at this
    exact this
  · exact sli_arg (l1.turn (Turn.alloc (S := fun _ => False) _ _) fun _ _ _ e => e) (by intro x hx; simp at hx; omega)
end BuP
end Go.Proofs.Ytablkaofaedpeaa
set_option maxRecDepth 100000
namespace Go.Proofs.Ytablkaofaedpeaa
open Go.ChangeShapes Go.WideShapes Go.ChangeAt Go.RowKit
attribute [local go_sem] Gives GivesE
namespace BuP
open BuM MbM MbP
theorem zip_mem {α β : Type} {l : List α} {m : List β} (h : m.length = l.length) {x : α} (hx : x ∈ l) : ∃ y, (x, y) ∈ l.zip m := by
  obtain ⟨i, hi⟩ := List.mem_iff_getElem?.1 hx
  have hl := (List.getElem?_eq_some_iff.1 hi).1
  refine ⟨m[i]'(by omega), List.mem_of_getElem? (i := i) ?_⟩
  rw [List.getElem?_zip_eq_some]
  exact ⟨hi, List.getElem?_eq_getElem (by omega)⟩
theorem undPtP : Try.prog.underlying 52 = some (.slice 23) := Try.underlying52
/-- The two members' bus. -/
def two (steps : List Stp) : Bs := BuM.new [made 4, made 4] (0, ClP.zero) steps
set_option maxHeartbeats 1000000 in
set_option maxRecDepth 100000 in
theorem two_any {repB : RepB} (hC : BusC repB) {w : World} {As : Option Addr} {ns cs : Nat} {steps : List Stp} {sl : List SlB} {S Sp : Nat → Prop} (hst : Sli 70 stL S w As (steps.zip sl) ns cs) (hsl : sl.length = steps.length) (hns : ns ≤ 1000)
    (hpk : ∀ s x, (s, x) ∈ steps.zip sl → Arg w x.A s.picks s.picks.length x.c ∧ s.picks.length ≤ 140737488351232 ∧ okS s ∧ ∀ q o, 0 < s.picks.length → x.A = some ⟨q, o, none⟩ → Sp q) (hSp : ∀ q, Sp q → q < w.heap.size) :
    Calls Try.prog 8 #[.slice As ns cs] w fun e w' => ∃ g m1 m2 F, e = .returned (.tuple #[MbP.at' g, MbP.at' m1, MbP.at' m2]) ∧ Pp repB w' g F 0 (two steps) ∧ F.gs = [m1, m2] ∧ (∀ q, mutP F q → w.heap.size ≤ q) ∧ (∀ q, rdP F q → w.heap.size ≤ q ∨ Sp q) ∧ Below w.heap.size w w' := by
  have HST := hid hst
  have HPK := hid hpk
  have HSP := hid hSp
  have hlen : ns = steps.length := by have := hst.len; rw [List.length_zip, hsl, Nat.min_self] at this; exact this.symm
  have HLN := hid hlen
  clear hst hpk hSp hlen
  unfold MbP.at'
  go_enter Try.func8, Try.ntmps8
  go_wp2_with fail
  refine (MbP.memD_ok.new 4 (by omega) (by omega) w).mono ?_
  rintro e w1 ⟨m1, M1, I1, rfl, r1, l1, b1⟩
  have R1 := hid r1
  have L1 := hid l1
  have B1 := hid b1
  clear r1 l1 b1
  unfold MbP.at'
  go_wp2_with fail
  refine (MbP.memD_ok.new 4 (by omega) (by omega) w1).mono ?_
  rintro e w2 ⟨m2, M2, I2, rfl, r2, l2, b2⟩
  have R2 := hid r2
  have L2 := hid l2
  have B2 := hid b2
  clear r2 l2 b2
  unfold MbP.at'
  go_wp2_with (with_reducible apply ClP.wblZ)
  refine (cb_new 0 ClP.zero (by unfold ClP.most; omega) w2).mono ?_
  rintro e w3 ⟨gc, Mc, rfl, rc, lc, b3⟩
  have RC := hid rc
  have LC := hid lc
  have B3 := hid b3
  clear rc lc b3
  unfold MbP.at'
  go_wp2_with ((with_reducible apply wlit2 eltPtP undPtP (x := m1) (y := m2)); omega; rfl; rfl; rfl; rfl)
  have a4 : Below w3.heap.size w3 (w3.alloc (.cells (ptL m1 ++ ptL m2).toArray 23)) := (Below.refl _ _).alloc (Nat.le_refl _) _
  have hl4 := sli_lit2 (S := fun q => True) eltPtP m1 m2 w3 trivial
  generalize World.alloc w3 _ = w4 at a4 hl4 ⊢
  have B4 := hid a4
  have HL4 := hid hl4
  have s1 := B1.out.size
  have s2 := B2.out.size
  have s3 := B3.out.size
  have s4 := a4.size
  have R1' := hid (MbP.memD_ok.frame R1.out (Turn.of_new (S := fun _ => False) ((B2.out.trans (B3.out.mono B2.out.size)).trans (a4.mono (Nat.le_trans B2.out.size B3.out.size)))) fun _ _ e => e)
  have R2' := hid (MbP.memD_ok.frame R2.out (Turn.of_new (S := fun _ => False) (B3.out.trans (a4.mono B3.out.size))) fun _ _ e => e)
  have RC' := hid (cb_turn RC.out (Turn.of_new (S := fun _ => False) a4) fun _ _ e => e)
  have BB := hid (((B1.out.trans (B2.out.mono B1.out.size)).trans (B3.out.mono (Nat.le_trans B1.out.size B2.out.size))).trans (a4.mono (Nat.le_trans B1.out.size (Nat.le_trans B2.out.size B3.out.size))))
  have X1 := hid (MbP.memD_ok.lt R1.out)
  have X2 := hid (MbP.memD_ok.lt R2.out)
  have XC := hid (cb_lt RC.out)
  clear a4 hl4
  refine (hC.new (gs := [m1, m2]) (ms := [made 4, made 4]) (k := 0) (Ms := fun i => if i = 0 then M1 else M2) (Is := fun i => if i = 0 then I1 else I2) (S := fun _ => True) (Sp := Sp) (sl := sl) HL4.out rfl (fun i gi st h1 h2 => ?_) (by omega) (by omega) RC'.out
    ((HST.out.turn (Turn.of_new (S := fun _ => False) BB.out) fun _ _ _ e => e).mono fun _ _ => trivial) hsl hns (fun s x hx => ?_)).mono ?_
  · rcases i with _ | _ | i
    · simp only [List.getElem?_cons_zero, Option.some.injEq] at h1 h2
      subst h1 h2
      exact ⟨R1'.out, by show (1 : Int) ≤ 4; omega⟩
    · simp only [List.getElem?_cons_succ, List.getElem?_cons_zero, Option.some.injEq] at h1 h2
      subst h1 h2
      exact ⟨R2'.out, by show (1 : Int) ≤ 4; omega⟩
    · simp at h1
  · obtain ⟨p1, p2, p3, p4⟩ := HPK.out s x hx
    exact ⟨p1.turn (Turn.of_new (S := fun _ => False) BB.out) fun _ _ _ _ e => e, p2, p3, p4⟩
  rintro e w5 ⟨g, Mo, Io, rfl, hsk, hmo, hio, hmi, h5⟩
  have s5 := h5.size
  have hP : Pp repB w5 g ⟨[m1, m2], fun i => if i = 0 then M1 else M2, fun i => if i = 0 then I1 else I2, gc, Mc, [((0, ClP.zero) : ClP.Held)], Mo, Io⟩ 0 (two steps) := by
    have k1 : ∀ q, M1 q ∨ I1 q → w.heap.size ≤ q ∧ q < w1.heap.size := fun q e => ⟨L1.out q e, X1.out q e⟩
    have k2 : ∀ q, M2 q ∨ I2 q → w1.heap.size ≤ q ∧ q < w2.heap.size := fun q e => ⟨L2.out q e, X2.out q e⟩
    have k3 : ∀ q, Mc q → w2.heap.size ≤ q ∧ q < w3.heap.size := fun q e => ⟨LC.out q e, XC.out q e⟩
    refine {
      skel := hsk
      len := rfl
      mem := fun i gi st h1 h2 => ?_
      ok := ⟨fun st hs => ?_, fun s hs => ?_⟩
      cel := cb_turn RC'.out (Turn.of_new (S := fun _ => False) h5) fun _ _ e => e
      olt := fun q e => ?_
      sep := fun q e e2 => ?_
      nd := fun i j q hi hj h1 h2 => ?_
      mc := fun q e => ⟨fun e2 => ?_, fun i hi e2 => ?_⟩
      mo := fun q e i hi e2 => ?_
      sz := ⟨by show 2 ≤ 64; omega, by show steps.length ≤ 1000; rw [← HLN.out]; exact hns, Nat.le_refl _, Nat.le_refl _, fun s hs => ?_⟩
      cmx := by show 0 ≤ _; omega }
    · replace h1 : [m1, m2][i]? = some gi := h1
      replace h2 : [made 4, made 4][i]? = some st := h2
      rcases i with _ | _ | i
      · simp only [List.getElem?_cons_zero, Option.some.injEq] at h1 h2
        subst h1 h2
        exact MbP.memD_ok.frame R1'.out (Turn.of_new (S := fun _ => False) h5) fun _ _ e => e
      · simp only [List.getElem?_cons_succ, List.getElem?_cons_zero, Option.some.injEq] at h1 h2
        subst h1 h2
        exact MbP.memD_ok.frame R2'.out (Turn.of_new (S := fun _ => False) h5) fun _ _ e => e
      · simp at h1
    · have : st = made 4 := by
        have : st ∈ [made 4, made 4] := hs
        simpa using this
      rw [this]; exact made_ok 4
    · obtain ⟨x, hx⟩ := zip_mem hsl hs
      exact (HPK.out s x hx).2.2.1
    · rcases e with e | e
      · exact (hmi q e).1
      · rcases hio q e with x | x
        · exact x.2
        · have := HSP.out q x; omega
    · have e2' : Mo q ∨ Mc q ∨ M1 q ∨ M2 q := by
        rcases e2 with e2 | e2 | ⟨i, hi, e2⟩
        · exact .inl e2
        · exact .inr (.inl e2)
        · replace e2 : (if i = 0 then M1 else M2) q := e2
          by_cases h0 : i = 0
          · rw [if_pos h0] at e2; exact .inr (.inr (.inl e2))
          · rw [if_neg h0] at e2; exact .inr (.inr (.inr e2))
      have e' : Io q ∨ I1 q ∨ I2 q := by
        rcases e with e | ⟨i, hi, e⟩
        · exact .inl e
        · replace e : (if i = 0 then I1 else I2) q := e
          by_cases h0 : i = 0
          · rw [if_pos h0] at e; exact .inr (.inl e)
          · rw [if_neg h0] at e; exact .inr (.inr e)
      rcases e' with e' | e' | e'
      · have hq : w4.heap.size ≤ q ∨ q < w.heap.size := (hio q e').imp (fun x => x.1) (HSP.out q)
        rcases e2' with x | x | x | x
        · exact (hmi q x).2 e'
        · have := k3 q x; omega
        · have := k1 q (.inl x); omega
        · have := k2 q (.inl x); omega
      · have y := k1 q (.inr e')
        rcases e2' with x | x | x | x
        · have := hmo q x; omega
        · have := k3 q x; omega
        · exact MbP.memD_ok.own R1.out q x e'
        · have := k2 q (.inl x); omega
      · have y := k2 q (.inr e')
        rcases e2' with x | x | x | x
        · have := hmo q x; omega
        · have := k3 q x; omega
        · have := k1 q (.inl x); omega
        · exact MbP.memD_ok.own R2.out q x e'
    · replace h1 : (if i = 0 then M1 else M2) q := h1
      replace h2 : (if j = 0 then M1 else M2) q := h2
      replace hi : i < 2 := hi
      replace hj : j < 2 := hj
      by_cases hi0 : i = 0
      · by_cases hj0 : j = 0
        · omega
        · rw [if_pos hi0] at h1; rw [if_neg hj0] at h2
          have := k1 q (.inl h1); have := k2 q (.inl h2); omega
      · by_cases hj0 : j = 0
        · rw [if_neg hi0] at h1; rw [if_pos hj0] at h2
          have := k2 q (.inl h1); have := k1 q (.inl h2); omega
        · omega
    · have := k3 q e; have := hmo q e2; omega
    · replace e2 : (if i = 0 then M1 else M2) q := e2
      have := k3 q e
      by_cases h0 : i = 0
      · rw [if_pos h0] at e2; have := k1 q (.inl e2); omega
      · rw [if_neg h0] at e2; have := k2 q (.inl e2); omega
    · replace e2 : (if i = 0 then M1 else M2) q := e2
      have := hmo q e
      by_cases h0 : i = 0
      · rw [if_pos h0] at e2; have := k1 q (.inl e2); omega
      · rw [if_neg h0] at e2; have := k2 q (.inl e2); omega
    · obtain ⟨x, hx⟩ := zip_mem hsl hs
      exact (HPK.out s x hx).2.1
  have hm : ∀ q, mutP ⟨[m1, m2], fun i => if i = 0 then M1 else M2, fun i => if i = 0 then I1 else I2, gc, Mc, [((0, ClP.zero) : ClP.Held)], Mo, Io⟩ q → w.heap.size ≤ q := fun q e => by
    rcases e with e | e | ⟨i, hi, e⟩
    · have := hmo q e; omega
    · have := LC.out q e; omega
    · replace e : (if i = 0 then M1 else M2) q := e
      by_cases h0 : i = 0
      · rw [if_pos h0] at e; exact L1.out q (.inl e)
      · rw [if_neg h0] at e; have := L2.out q (.inl e); omega
  have hr : ∀ q, rdP ⟨[m1, m2], fun i => if i = 0 then M1 else M2, fun i => if i = 0 then I1 else I2, gc, Mc, [((0, ClP.zero) : ClP.Held)], Mo, Io⟩ q → w.heap.size ≤ q ∨ Sp q := fun q e => by
    rcases e with e | ⟨i, hi, e⟩
    · rcases hio q e with x | x
      · left; omega
      · exact .inr x
    · left
      replace e : (if i = 0 then I1 else I2) q := e
      by_cases h0 : i = 0
      · rw [if_pos h0] at e; exact L1.out q (.inr e)
      · rw [if_neg h0] at e; have := L2.out q (.inr e); omega
  have B5 := hid (BB.out.trans (h5.mono BB.out.size))
  have HP := hid hP
  have HM := hid hm
  have HR := hid hr
  clear hP hm hr hsk hmo hio hmi h5 HST HPK HSP R1 R2 RC R1' R2' RC' L1 L2 LC X1 X2 XC B1 B2 B3 B4 HL4 BB s1 s2 s3 s4 s5
  unfold MbP.at'
  go_wp2_with fail
  refine bodyPost_ret (results_tmp3 rfl _ _ _) rfl ?_
  exact ⟨g, m1, m2, _, rfl, HP.out, rfl, HM.out, HR.out, B5.out⟩
end BuP
end Go.Proofs.Ytablkaofaedpeaa
set_option maxRecDepth 100000
namespace Go.Proofs.Ytablkaofaedpeaa
open Go.RowKit
section
variable {P : Program} {ops : Array Oper}
/-- The operations in the order of the text, the k-th first. -/
def wpD (P : Program) (ops : Array Oper) (S : Nat → Value → Prop) (C : (Nat → Bool) → (Nat → Value) → World → Prop) (Q : (Nat → Value) → Act → Prop) : Nat → (Nat → Value) → List Oper → Act → Prop
  | _, vs, [], a => Q vs a
  | k, vs, o :: rest, a => ((Region.wanted o (yielded ops a.tmps) = true ∧ ∀ d w, d k = false → (∀ p q, Region.waitsFor .any ops p q = true → d p = true → d q = true) → (∀ j, Region.waitsFor .any ops j k = true → d j = false) → (∀ j, Region.waitsFor .any ops k j = true → d j = true) → C d vs w →
      GivesE P o a w fun v w' => S k v ∧ C (upB d k) (updV vs k v) w') ∨
      (Region.wanted o (yielded ops a.tmps) = false ∧ S k undef ∧ (∀ d w, C d vs w → C (upB d k) (updV vs k undef) w))) ∧ (S k (vs k) → wpD P ops S C Q (k + 1) vs rest (a.put o.dst (vs k)))
theorem wpD_at {S : Nat → Value → Prop} {C : (Nat → Bool) → (Nat → Value) → World → Prop} {Qk : (Nat → Value) → Act → Prop} {vs : Nat → Value} (hS : ∀ j, S j (vs j)) : ∀ (l : List Oper) (k : Nat) (a : Act), wpD P ops S C Qk k vs l a →
    Qk vs (lexF l (fun i => vs (k + i)) l.length a) ∧ ∀ i o, l[i]? = some o →
      ((Region.wanted o (yielded ops (lexF l (fun i => vs (k + i)) i a).tmps) = true ∧ ∀ d w, d (k + i) = false → (∀ p q, Region.waitsFor .any ops p q = true → d p = true → d q = true) → (∀ j, Region.waitsFor .any ops j (k + i) = true → d j = false) → (∀ j, Region.waitsFor .any ops (k + i) j = true → d j = true) → C d vs w →
        GivesE P o (lexF l (fun i => vs (k + i)) i a) w fun v w' => S (k + i) v ∧ C (upB d (k + i)) (updV vs (k + i) v) w') ∨
      (Region.wanted o (yielded ops (lexF l (fun i => vs (k + i)) i a).tmps) = false ∧ S (k + i) undef ∧ (∀ d w, C d vs w → C (upB d (k + i)) (updV vs (k + i) undef) w)))
  | [], k, a, h => ⟨h, fun i o hi => by simp at hi⟩
  | o :: l, k, a, h => by
    obtain ⟨h1, h2⟩ := h
    obtain ⟨hq, hs⟩ := wpD_at hS l (k + 1) _ (h2 (hS k))
    have e : (fun i => vs (k + 1 + i)) = fun i => vs (k + (i + 1)) := funext fun i => by rw [show k + 1 + i = k + (i + 1) by omega]
    rw [e] at hq hs
    refine ⟨?_, fun i o' hi => ?_⟩
    · rw [List.length_cons, lexF_cons]; exact hq
    · cases i with
      | zero =>
        simp only [List.getElem?_cons_zero, Option.some.injEq] at hi
        subst hi
        exact h1
      | succ i =>
        rw [lexF_cons, show k + (i + 1) = k + 1 + i by omega]
        exact hs i o' (by simpa using hi)
theorem wp_region_d {id : Nat} {Q : Exit → Act → World → Prop} {C : (Nat → Bool) → (Nat → Value) → World → Prop} {S : Nat → Value → Prop} {a : Act} {w : World} {l : List Oper} (n : Nat)
    (hm : P.follows .mixedOrders = true) (ht : tidy l.toArray = true) (hB : tailB l.toArray n = true)
    (v0 : Nat → Value) (h0 : ∀ j, S j (v0 j)) (hC : C (fun _ => false) v0 w.drew)
    (h : ∀ vs : Nat → Value, wpD P l.toArray S C (fun vs a' => ∀ d w', (∀ k, k < n → d k = true) → C d vs w' → wpList P l.toArray Q (l.drop n) a' w') 0 vs (l.take n) a) : (Code.region id l.toArray true).wp P Q a w := by
  refine region_coreE (Γ := {vs : Nat → Value // ∀ j, S j (vs j)}) (C := fun γ L w' => C (fun j => L.getD j false) γ.1 w' ∧ Closed l.toArray L) n hm ht hB ⟨v0, h0⟩
    ⟨by rw [show (fun j => (Array.replicate l.length false).getD j false) = fun _ => false from funext fun j => getD_replicate_false _ j]; exact hC, (fun j o _ hl => by rw [getD_replicate_false] at hl; cases hl)⟩ (fun γ => γ.1) ?_ ?_
  · intro i o hi γ L w' hsz hr ⟨hC', hcl⟩
    have hun := getD_both (mem_ready.1 hr).1
    have hlt : i < L.size := by
      obtain ⟨o', ho', _⟩ := (mem_ready.1 hr).2
      have := (Array.getElem?_eq_some_iff.1 ho').1
      simp at this; omega
    have hup : (fun j => (L.setIfInBounds i true).getD j false) = upB (fun j => L.getD j false) i := funext fun j => by
      unfold upB
      by_cases e : j = i
      · subst e; rw [if_pos rfl]; simp [hlt]
      · rw [if_neg e, getD_set_ne false (Ne.symm e)]
    have hcl2 := closed_set hcl hr
    have key := (wpD_at γ.2 (l.take n) 0 a (h γ.1)).2 i o hi
    simp only [Nat.zero_add] at key
    have hwait : ∀ j, Region.waitsFor .any l.toArray i j = true → L.getD j false = true := fun j hj => waits_ready hr hj
    have hnext : ∀ j, Region.waitsFor .any l.toArray j i = true → L.getD j false = false := fun j hj => by
      cases hx : L.getD j false with
      | false => rfl
      | true =>
        have := waits_closed hcl hx hj
        rw [hun] at this
        cases this
    have upd : ∀ v, S i v → ∀ j, S j (updV γ.1 i v j) := fun v hv j => by
      by_cases e : j = i
      · subst e; rw [updV_self]; exact hv
      · rw [updV_ne _ _ e]; exact γ.2 j
    have keep : ∀ v j, L.getD j false = true → γ.1 j = updV γ.1 i v j := fun v j hj => by
      have : j ≠ i := fun e => by subst e; rw [hun] at hj; cases hj
      rw [updV_ne _ _ this]
    rcases key with ⟨k1, k2⟩ | ⟨k1, k2, k3⟩
    · refine .inl ⟨k1, givesE_mono (k2 _ w' hun (fun p q hpq hp => waits_closed hcl hp hpq) hnext hwait hC') fun v w2 ⟨h1, h2⟩ => ⟨⟨updV γ.1 i v, upd v h1⟩, keep v, updV_self _ _ _, ?_, hcl2⟩⟩
      rw [hup]; exact h2
    · refine .inr ⟨k1, ⟨updV γ.1 i undef, upd undef k2⟩, keep undef, updV_self _ _ _, ?_, hcl2⟩
      rw [hup]; exact k3 _ _ hC'
  · intro γ L w' hall ⟨hC', _⟩
    have key := (wpD_at γ.2 (l.take n) 0 a (h γ.1)).1
    have ez : (fun i => γ.1 (0 + i)) = γ.1 := funext fun i => by rw [Nat.zero_add]
    rw [ez] at key
    exact key _ w' hall hC'
end
end Go.Proofs.Ytablkaofaedpeaa
set_option maxRecDepth 100000
namespace Go.Proofs.Ytablkaofaedpeaa
namespace BuP
open BuM MbM
def f1 : Nat → Nat := fun _ => 1
def aw0 : Bs := two [gs1, gs2]
def aw1 : Bs := BuM.rdT aw0 0 2
def aw2 : Bs := BuM.rdT aw1 0 2
def aw3 : Bs := BuM.wrT aw2 1 0 f1
def aw4 : Bs := BuM.wrT aw3 1 1 f1
theorem aw_r1 : (BuM.rdB (BuM.ahead aw0) 0 2).s = (fun _ => 0) ∧ (BuM.rdB (BuM.ahead aw0) 0 2).e = 0 := ⟨rfl, rfl⟩
theorem aw_r2 : (BuM.rdB (BuM.ahead aw1) 0 2).s = f1 ∧ (BuM.rdB (BuM.ahead aw1) 0 2).e = 0 := ⟨rfl, rfl⟩
theorem aw_w3 : (BuM.wrB (BuM.ahead aw2) 1 0 f1).e = 0 := rfl
theorem aw_w4 : (BuM.wrB (BuM.ahead aw3) 1 1 f1).e = 13 := rfl
theorem aw_off : aw4.off = true ∧ aw4.log.length = 4 := ⟨rfl, rfl⟩
theorem aw_hurt : (aw2.ms[0]?.map (·.hurt)) = some true ∧ (aw3.ms[0]?.map (·.hurt)) = some true ∧ (aw4.ms[0]?.map (·.hurt)) = some true := ⟨rfl, rfl, rfl⟩
theorem aw_steps : aw0.steps.length = 2 ∧ aw1.steps.length = 2 ∧ aw2.steps.length = 2 ∧ aw3.steps.length = 2 ∧ aw4.steps.length = 2 := ⟨rfl, rfl, rfl, rfl, rfl⟩
end BuP
end Go.Proofs.Ytablkaofaedpeaa
set_option maxRecDepth 100000
namespace Go.Proofs.Ytablkaofaedpeaa
open Go.ChangeShapes Go.WideShapes Go.ChangeAt Go.RowKit
attribute [local go_sem] Gives GivesE
namespace BuP
open BuM MbM MbP
section
variable {a : Act} {w : World} {dst : Option Tmp} {ty T : TypeId} {r : TypeId} {pos : String} {after : Array Edge} {gd : Option (Nat × Bool)} {R : Value → World → Prop} {x y : Operand} {v : Value} {f : Nat → Nat}
theorem gE_bld0 (hb : ∀ w, (Instr.build T #[]).run Try.prog w = .ok v w) (hR : R v w) : GivesE Try.prog ⟨dst, .build T #[], ty, pos, after, gd⟩ a w R := by
  unfold GivesE execOp
  simp [hb, Result.andThen]
  exact hR
theorem gE_eqSe (hx : a.eval x = .agg (ar 64 f)) (hy : a.eval y = .agg (ar 64 f)) (hR : R (.bool true) w) : GivesE Try.prog ⟨dst, .binOp .eql 30 x y r, ty, pos, after, gd⟩ a w R := by
  have h1 : (eqGuard .eql 30 x y (.agg (ar 64 f)) (.agg (ar 64 f))).run Try.prog w = .ok () w := by
    simp [eqGuard, gSe', go_sem]
  have h2 : (binOp .eql 30 (.agg (ar 64 f)) (.agg (ar 64 f))).run Try.prog w = .ok (.bool (eqA 64 f f)) w := run_eql_ar uSe' _ _ _
  rw [eqA_yes fun _ _ => rfl] at h2
  unfold GivesE
  simp only [execOp, hx, hy, Sem.run_bind, h1, h2, Result.andThen_ok, Sem.run_pure]
  exact hR
theorem run_se0 (w : World) : (Instr.build 30 #[]).run Try.prog w = .ok (.agg (ar 64 fun _ => 0)) w := run_build w _ _ _ (by kernel_rfl)
end
/-- A bus of two members in the midst of awake, and the two sectors that were read. -/
structure AwS (repB : RepB) (B : Nat) (W : World) (g m1 m2 gX gY k : Nat) (b : Bs) (w' : World) : Prop where
  pp : ∃ F', Pp repB w' g F' k b ∧ F'.gs = [m1, m2] ∧ ∀ q, mutP F' q → B ≤ q ∧ q ≠ gX ∧ q ≠ gY
  bel : Below B W w'
  base : B ≤ w'.heap.size
  x : Blk w' gX 30 (ar 64 fun _ => 0)
  y : Blk w' gY 30 (ar 64 f1)
def stB (a c : Bool) : Bs := if c then aw4 else if a then aw3 else aw2
def stK (a c : Bool) : Nat := if c then 16 else if a then 12 else 8
section
variable {repB : RepB} {B : Nat} {W w' w2 : World} {g m1 m2 gX gY k k2 : Nat} {b b2 : Bs}
theorem AwS.on (hC : BusC repB) (H : AwS repB B W g m1 m2 gX gY k b w') (hb : Below w'.heap.size w' w2) : AwS repB B W g m1 m2 gX gY k b w2 := by
  obtain ⟨F', h1, h2, h3⟩ := H.pp
  exact ⟨⟨F', h1.below hC hb, h2, h3⟩, H.bel.trans (hb.mono H.base), Nat.le_trans H.base hb.size, H.x.below hb H.x.lt, H.y.below hb H.y.lt⟩
theorem AwS.io {F' : Fq} (H : AwS repB B W g m1 m2 gX gY k b w') (h2 : F'.gs = [m1, m2]) (h3 : ∀ q, mutP F' q → B ≤ q ∧ q ≠ gX ∧ q ≠ gY) (ho : outQ repB w' g F' k2 b2 w2) : AwS repB B W g m1 m2 gX gY k2 b2 w2 := by
  obtain ⟨F2, p, e1, e2, mm, ii, t⟩ := ho
  refine ⟨⟨F2, p, e1.trans h2, fun q e => ?_⟩, H.bel.trans (t.below H.base fun q e => (h3 q e).1), Nat.le_trans H.base t.size, H.x.turn t fun e => (h3 gX e).2.1 rfl, H.y.turn t fun e => (h3 gY e).2.2 rfl⟩
  rcases mm q e with x | x
  · exact h3 q x
  · have := H.x.lt; have := H.y.lt; have := H.base
    exact ⟨by omega, by omega, by omega⟩
theorem AwS.touched (H : AwS repB B W g m1 m2 gX gY k b w') (hb : (b.ms[0]?.map (·.hurt)) = some true) : Calls Try.prog 31 #[MbP.at' m1] w' fun e w2 => e = .returned (.bool true) ∧ Below w'.heap.size w' w2 := by
  obtain ⟨F', h1, h2, h3⟩ := H.pp
  cases h : b.ms[0]? with
  | none => rw [h] at hb; cases hb
  | some st =>
    rw [h] at hb
    have hh : st.hurt = true := by simpa using hb
    have := MbP.memD_ok.touched (h1.mem 0 m1 st (by rw [h2]; rfl) h)
    rw [hh] at this
    exact this
end
set_option maxHeartbeats 4000000 in
set_option maxRecDepth 100000 in
theorem awake_any {repB : RepB} (hC : BusC repB) (w : World) : Calls Try.prog 10 #[] w fun e w' => e = .returned (.bool true) ∧ Below w.heap.size w w' := by
  have hC0 := hid hC
  go_enter Try.func10, Try.ntmps10
  go_wp2_with fail
  refine (given_any w).mono ?_
  rintro e w1 ⟨gS, gB, rfl, hs, hp, hgB, hne, h1⟩
  have HS := hid hs
  have HP := hid hp
  have B1 := hid h1
  clear hs hp h1
  go_wp2_with fail
  refine (two_any hC (steps := [gs1, gs2]) (sl := [⟨none, 0⟩, ⟨some ⟨gB, 0, none⟩, 2⟩]) (Sp := fun q => q = gB) HS.out rfl (by omega) (fun s x hx => ?_) (fun q e => ?_)).mono ?_
  · have hx' : (s, x) = (gs1, (⟨none, 0⟩ : SlB)) ∨ (s, x) = (gs2, (⟨some ⟨gB, 0, none⟩, 2⟩ : SlB)) := by simpa using hx
    rcases hx' with hx' | hx'
    · cases hx'
      exact ⟨⟨rfl, Nat.le_refl _, Nat.zero_le _, (fun x hx => by cases hx), fun _ => ⟨rfl, rfl⟩, Byt.none rfl⟩, by show 0 ≤ _; omega, ⟨fun _ => by show 1 < 256; omega, fun p hp => by cases hp⟩, fun q o h0 _ => by cases h0⟩
    · cases hx'
      exact ⟨HP.out, by show 2 ≤ _; omega, ⟨fun _ => by show 0 < 256; omega, fun p hp => (by have h9 : p = 0 ∨ p = 1 := (by simpa [gs2] using hp); omega)⟩, fun q o _ e => by cases e; rfl⟩
  · obtain ⟨b, o, e', hl, _⟩ := HP.out.byt (by show 0 < 2; omega)
    cases e'
    rw [e]; exact hl
  rintro e w2 ⟨g, m1, m2, F, rfl, hP, hgs, hm, _, h2⟩
  have PP := hid hP
  have HM := hid hm
  have B2 := hid (B1.out.trans (h2.mono B1.out.size))
  have s1 := B1.out.size
  clear hP hm h2 HS HP
  unfold MbP.at'
  go_wp2_with fail
  refine (hC.read (b := aw0) PP.out (by show 0 + 2 + 2 ≤ _; omega) 0 2).mono ?_
  rintro e w3 ⟨rfl, ho⟩
  rw [aw_r1.1, aw_r1.2]
  obtain ⟨F3, p3, g3, c3, mm3, ii3, t3⟩ := ho
  have P3 := hid (show Pp repB w3 g F3 4 aw1 from p3)
  have M3 := hid (show ∀ q, mutP F3 q → w.heap.size ≤ q from fun q e => (mm3 q e).elim (fun x => by have := HM.out q x; omega) fun x => by have := B2.out.size; omega)
  have B3 := hid (B2.out.trans (t3.below B2.out.size fun q e => by have := HM.out q e; omega))
  have G3 := hid (show F3.gs = [m1, m2] from g3.trans hgs)
  clear p3 g3 c3 mm3 ii3 t3 PP HM hgs
  go_upto_region 5 with (first | (with_reducible apply alA tSe) | ((with_reducible apply stA tSe); rfl; rfl; exact Blk.new _ _ _))
  generalize hw4 : World.setRow _ _ _ = w4
  have b4 : Below w3.heap.size w3 w4 := by rw [← hw4]; exact below_setRow ((Below.refl _ _).alloc (Nat.le_refl _) _) (Nat.le_refl _) _
  have X4 := hid (show Blk w4 w3.heap.size 30 (ar 64 fun _ => 0) by rw [← hw4]; exact (Blk.new w3 _ _).setRow_same _)
  obtain ⟨gX, hgX⟩ : ∃ n, n = w3.heap.size := ⟨_, rfl⟩
  have N3 := hid (show ∀ q, mutP F3 q → q ≠ gX from fun q e => by have := P3.out.mlt q e; omega)
  rw [← hgX] at X4 ⊢
  have P4 := hid (P3.out.below hC b4)
  have B4 := hid (B3.out.trans (b4.mono B3.out.size))
  clear hw4 b4 hgX P3 B3
  go_wp2_with fail
  refine (hC.read (b := aw1) P4.out (by show 4 + 2 + 2 ≤ _; omega) 0 2).mono ?_
  rintro e w5 ⟨rfl, ho⟩
  rw [aw_r2.1, aw_r2.2]
  obtain ⟨F5, p5, g5, c5, mm5, ii5, t5⟩ := ho
  have P5 := hid (show Pp repB w5 g F5 8 aw2 from p5)
  have X5 := hid (X4.out.turn t5 fun e => N3.out gX e rfl)
  have M5 := hid (show ∀ q, mutP F5 q → w.heap.size ≤ q ∧ q ≠ gX from fun q e => (mm5 q e).elim (fun x => ⟨M3.out q x, N3.out q x⟩) fun x => by have := B4.out.size; have := X4.out.lt; exact ⟨by omega, by omega⟩)
  have B5 := hid (B4.out.trans (t5.below B4.out.size fun q e => M3.out q e))
  have G5 := hid (show F5.gs = [m1, m2] from g5.trans G3.out)
  clear p5 g5 c5 mm5 ii5 t5 P4 X4 M3 N3 G3 B4
  go_upto_region 6 with (first | (with_reducible apply alA tSe) | ((with_reducible apply stA tSe); rfl; rfl; exact Blk.new _ _ _))
  generalize hw6 : World.setRow _ _ _ = w6
  have b6 : Below w5.heap.size w5 w6 := by rw [← hw6]; exact below_setRow ((Below.refl _ _).alloc (Nat.le_refl _) _) (Nat.le_refl _) _
  have y6 : Blk w6 w5.heap.size 30 (ar 64 f1) := by rw [← hw6]; exact (Blk.new w5 _ _).setRow_same _
  obtain ⟨gY, hgY⟩ : ∃ n, n = w5.heap.size := ⟨_, rfl⟩
  have N5 : ∀ q, mutP F5 q → q ≠ gY := fun q e => by have := P5.out.mlt q e; omega
  rw [← hgY] at y6 ⊢
  have SS : AwS repB w.heap.size w g m1 m2 gX gY (stK false false) (stB false false) w6.drew := by
    have h0 : AwS repB w.heap.size w g m1 m2 gX gY 8 aw2 w6 := ⟨⟨F5, P5.out.below hC b6, G5.out, fun q e => ⟨(M5.out q e).1, (M5.out q e).2, N5 q e⟩⟩, B5.out.trans (b6.mono B5.out.size), Nat.le_trans B5.out.size b6.size, X5.out.below b6 X5.out.lt, y6⟩
    exact h0.on hC (Below.refl _ _).drew
  clear hw6 b6 y6 hgY N5 P5 X5 M5 B5 G5
  rw [show f1 = (fun _ => 1 : Nat → Nat) from rfl]
  refine wp_region_d (S := yS [some (.agg (ar 64 fun _ => 0)), some (.agg (ar 64 fun _ => 0)), some (.bool true), some (.bool true), some (.int .i64 0), some (.bool true), some (.bool true), some (.bool true), some (.agg (ar 64 fun _ => 1)), some (.agg (ar 64 fun _ => 1)), some (.bool true), some (.bool true), some (.bool true), some (.int .i64 0), some (.bool true), some (.bool true), some (.bool true), some (.pointer (some ⟨m1, 0, none⟩)), some (.bool true), some (.bool true), some (.bool true), some (.pointer (some ⟨g, 0, none⟩)), some (.agg (ar 64 fun _ => 1)), some (.int .i64 0), some (.bool true), some (.bool true), some (.bool true), some (.pointer (some ⟨g, 0, none⟩)), some (.agg (ar 64 fun _ => 1)), some (.int .i64 13), some (.bool true), some (.bool true), some (.bool true), some (.pointer (some ⟨g, 0, none⟩)), some (.bool true), some (.bool true), some (.bool true), some (.pointer (some ⟨g, 0, none⟩)), some (.int .i64 4), some (.bool true), some (.bool true)] []) (C := fun d vs w' => AwS repB w.heap.size w g m1 m2 gX gY (stK (d 23) (d 29)) (stB (d 23) (d 29)) w') 41 (by kernel_rfl) (by kernel_rfl) (by kernel_rfl) _
    (yS_ok _ fun y hy => by cases hy) SS fun vs => ?_
  clear SS
  simp only [List.take_succ_cons, List.take_zero, List.drop_succ_cons, List.drop_zero]
  refine ⟨.inl ⟨rfl, fun dd w' hd hcl hnx hw hC => ?_⟩, fun e => ?_⟩
  · exact gE_ldA tSe rfl hC.x.head ⟨rfl, hC⟩
  have e' : vs 0 = _ := e
  rw [e']
  clear e e'
  simp only [Act.put, List.setIfInBounds_toArray, List.set_cons_succ, List.set_cons_zero]
  refine ⟨.inl ⟨rfl, fun dd w' hd hcl hnx hw hC => ?_⟩, fun e => ?_⟩
  · exact gE_bld0 run_se0 ⟨rfl, hC⟩
  have e' : vs 1 = _ := e
  rw [e']
  clear e e'
  simp only [Act.put, List.setIfInBounds_toArray, List.set_cons_succ, List.set_cons_zero]
  refine ⟨.inl ⟨rfl, fun dd w' hd hcl hnx hw hC => ?_⟩, fun e => ?_⟩
  · exact gE_eqSe rfl rfl ⟨rfl, hC⟩
  have e' : vs 2 = _ := e
  rw [e']
  clear e e'
  simp only [Act.put, List.setIfInBounds_toArray, List.set_cons_succ, List.set_cons_zero]
  refine ⟨.inl ⟨rfl, fun dd w' hd hcl hnx hw hC => ?_⟩, fun e => ?_⟩
  · go_simp
    first | exact ⟨rfl, hC⟩ | exact hC
  have e' : vs 3 = _ := e
  rw [e']
  clear e e'
  simp only [Act.put, List.setIfInBounds_toArray, List.set_cons_succ, List.set_cons_zero]
  refine ⟨.inl ⟨rfl, fun dd w' hd hcl hnx hw hC => ?_⟩, fun e => ?_⟩
  · go_simp
    first | exact ⟨rfl, hC⟩ | exact hC
  have e' : vs 4 = _ := e
  rw [e']
  clear e e'
  simp only [Act.put, List.setIfInBounds_toArray, List.set_cons_succ, List.set_cons_zero]
  refine ⟨.inl ⟨rfl, fun dd w' hd hcl hnx hw hC => ?_⟩, fun e => ?_⟩
  · go_simp
    first | exact ⟨rfl, hC⟩ | exact hC
  have e' : vs 5 = _ := e
  rw [e']
  clear e e'
  simp only [Act.put, List.setIfInBounds_toArray, List.set_cons_succ, List.set_cons_zero]
  refine ⟨.inl ⟨rfl, fun dd w' hd hcl hnx hw hC => ?_⟩, fun e => ?_⟩
  · go_simp
    first | exact ⟨rfl, hC⟩ | exact hC
  have e' : vs 6 = _ := e
  rw [e']
  clear e e'
  simp only [Act.put, List.setIfInBounds_toArray, List.set_cons_succ, List.set_cons_zero]
  refine ⟨.inl ⟨rfl, fun dd w' hd hcl hnx hw hC => ?_⟩, fun e => ?_⟩
  · go_simp
    first | exact ⟨rfl, hC⟩ | exact hC
  have e' : vs 7 = _ := e
  rw [e']
  clear e e'
  simp only [Act.put, List.setIfInBounds_toArray, List.set_cons_succ, List.set_cons_zero]
  refine ⟨.inl ⟨rfl, fun dd w' hd hcl hnx hw hC => ?_⟩, fun e => ?_⟩
  · exact gE_ldA tSe rfl hC.y.head ⟨rfl, hC⟩
  have e' : vs 8 = _ := e
  rw [e']
  clear e e'
  simp only [Act.put, List.setIfInBounds_toArray, List.set_cons_succ, List.set_cons_zero]
  refine ⟨.inl ⟨rfl, fun dd w' hd hcl hnx hw hC => ?_⟩, fun e => ?_⟩
  · go_simp
    refine (full13_any 1 w').mono ?_
    rintro e w2 ⟨rfl, h⟩
    exact ⟨_, rfl, rfl, hC.on hC0.out h⟩
  have e' : vs 9 = _ := e
  rw [e']
  clear e e'
  simp only [Act.put, List.setIfInBounds_toArray, List.set_cons_succ, List.set_cons_zero]
  refine ⟨.inl ⟨rfl, fun dd w' hd hcl hnx hw hC => ?_⟩, fun e => ?_⟩
  · exact gE_eqSe rfl rfl ⟨rfl, hC⟩
  have e' : vs 10 = _ := e
  rw [e']
  clear e e'
  simp only [Act.put, List.setIfInBounds_toArray, List.set_cons_succ, List.set_cons_zero]
  refine ⟨.inl ⟨rfl, fun dd w' hd hcl hnx hw hC => ?_⟩, fun e => ?_⟩
  · go_simp
    first | exact ⟨rfl, hC⟩ | exact hC
  have e' : vs 11 = _ := e
  rw [e']
  clear e e'
  simp only [Act.put, List.setIfInBounds_toArray, List.set_cons_succ, List.set_cons_zero]
  refine ⟨.inl ⟨rfl, fun dd w' hd hcl hnx hw hC => ?_⟩, fun e => ?_⟩
  · go_simp
    first | exact ⟨rfl, hC⟩ | exact hC
  have e' : vs 12 = _ := e
  rw [e']
  clear e e'
  simp only [Act.put, List.setIfInBounds_toArray, List.set_cons_succ, List.set_cons_zero]
  refine ⟨.inl ⟨rfl, fun dd w' hd hcl hnx hw hC => ?_⟩, fun e => ?_⟩
  · go_simp
    first | exact ⟨rfl, hC⟩ | exact hC
  have e' : vs 13 = _ := e
  rw [e']
  clear e e'
  simp only [Act.put, List.setIfInBounds_toArray, List.set_cons_succ, List.set_cons_zero]
  refine ⟨.inl ⟨rfl, fun dd w' hd hcl hnx hw hC => ?_⟩, fun e => ?_⟩
  · go_simp
    first | exact ⟨rfl, hC⟩ | exact hC
  have e' : vs 14 = _ := e
  rw [e']
  clear e e'
  simp only [Act.put, List.setIfInBounds_toArray, List.set_cons_succ, List.set_cons_zero]
  refine ⟨.inl ⟨rfl, fun dd w' hd hcl hnx hw hC => ?_⟩, fun e => ?_⟩
  · go_simp
    first | exact ⟨rfl, hC⟩ | exact hC
  have e' : vs 15 = _ := e
  rw [e']
  clear e e'
  simp only [Act.put, List.setIfInBounds_toArray, List.set_cons_succ, List.set_cons_zero]
  refine ⟨.inl ⟨rfl, fun dd w' hd hcl hnx hw hC => ?_⟩, fun e => ?_⟩
  · go_simp
    first | exact ⟨rfl, hC⟩ | exact hC
  have e' : vs 16 = _ := e
  rw [e']
  clear e e'
  simp only [Act.put, List.setIfInBounds_toArray, List.set_cons_succ, List.set_cons_zero]
  refine ⟨.inl ⟨rfl, fun dd w' hd hcl hnx hw hC => ?_⟩, fun e => ?_⟩
  · go_simp
    first | exact ⟨rfl, hC⟩ | exact hC
  have e' : vs 17 = _ := e
  rw [e']
  clear e e'
  simp only [Act.put, List.setIfInBounds_toArray, List.set_cons_succ, List.set_cons_zero]
  refine ⟨.inl ⟨rfl, fun dd w' hd hcl hnx hw hC => ?_⟩, fun e => ?_⟩
  · go_simp
    refine (AwS.touched hC (by cases dd 23 <;> cases dd 29 <;> rfl)).mono ?_
    rintro e w2 ⟨rfl, h⟩
    exact ⟨_, rfl, rfl, hC.on hC0.out h⟩
  have e' : vs 18 = _ := e
  rw [e']
  clear e e'
  simp only [Act.put, List.setIfInBounds_toArray, List.set_cons_succ, List.set_cons_zero]
  refine ⟨.inl ⟨rfl, fun dd w' hd hcl hnx hw hC => ?_⟩, fun e => ?_⟩
  · go_simp
    first | exact ⟨rfl, hC⟩ | exact hC
  have e' : vs 19 = _ := e
  rw [e']
  clear e e'
  simp only [Act.put, List.setIfInBounds_toArray, List.set_cons_succ, List.set_cons_zero]
  refine ⟨.inl ⟨rfl, fun dd w' hd hcl hnx hw hC => ?_⟩, fun e => ?_⟩
  · go_simp
    first | exact ⟨rfl, hC⟩ | exact hC
  have e' : vs 20 = _ := e
  rw [e']
  clear e e'
  simp only [Act.put, List.setIfInBounds_toArray, List.set_cons_succ, List.set_cons_zero]
  refine ⟨.inl ⟨rfl, fun dd w' hd hcl hnx hw hC => ?_⟩, fun e => ?_⟩
  · go_simp
    first | exact ⟨rfl, hC⟩ | exact hC
  have e' : vs 21 = _ := e
  rw [e']
  clear e e'
  simp only [Act.put, List.setIfInBounds_toArray, List.set_cons_succ, List.set_cons_zero]
  refine ⟨.inl ⟨rfl, fun dd w' hd hcl hnx hw hC => ?_⟩, fun e => ?_⟩
  · go_simp
    refine (full13_any 1 w').mono ?_
    rintro e w2 ⟨rfl, h⟩
    exact ⟨_, rfl, rfl, hC.on hC0.out h⟩
  have e' : vs 22 = _ := e
  rw [e']
  clear e e'
  simp only [Act.put, List.setIfInBounds_toArray, List.set_cons_succ, List.set_cons_zero]
  refine ⟨.inl ⟨rfl, fun dd w' hd hcl hnx hw hC => ?_⟩, fun e => ?_⟩
  · have h29' : dd 29 = false := by
      cases h29 : dd 29 with
      | false => rfl
      | true =>
        have h26 : dd 26 = true := hcl 29 26 (by kernel_rfl) h29
        have h25 : dd 25 = true := hcl 26 25 (by kernel_rfl) h26
        have h24 : dd 24 = true := hcl 25 24 (by kernel_rfl) h25
        have h23 : dd 23 = true := hcl 24 23 (by kernel_rfl) h24
        rw [show dd 23 = false from hd] at h23; cases h23
    have hc : AwS repB w.heap.size w g m1 m2 gX gY (stK (dd 23) (dd 29)) (stB (dd 23) (dd 29)) w' := hC
    rw [show dd 23 = false from hd, h29'] at hc
    obtain ⟨F', p1, p2, p3⟩ := hc.pp
    go_simp
    refine (hC0.out.write (b := aw2) p1 (by show 8 + 2 + 2 ≤ _; omega) 1 0 f1 (fun _ => by show 1 < 256; omega)).mono ?_
    rintro e w2 ⟨rfl, ho⟩
    have hq := hc.io (k2 := 12) (b2 := aw3) p2 p3 ho
    refine ⟨_, rfl, rfl, ?_⟩
    show AwS repB w.heap.size w g m1 m2 gX gY (stK true (dd 29)) (stB true (dd 29)) w2
    rw [h29']; exact hq
  have e' : vs 23 = _ := e
  rw [e']
  clear e e'
  simp only [Act.put, List.setIfInBounds_toArray, List.set_cons_succ, List.set_cons_zero]
  refine ⟨.inl ⟨rfl, fun dd w' hd hcl hnx hw hC => ?_⟩, fun e => ?_⟩
  · go_simp
    first | exact ⟨rfl, hC⟩ | exact hC
  have e' : vs 24 = _ := e
  rw [e']
  clear e e'
  simp only [Act.put, List.setIfInBounds_toArray, List.set_cons_succ, List.set_cons_zero]
  refine ⟨.inl ⟨rfl, fun dd w' hd hcl hnx hw hC => ?_⟩, fun e => ?_⟩
  · go_simp
    first | exact ⟨rfl, hC⟩ | exact hC
  have e' : vs 25 = _ := e
  rw [e']
  clear e e'
  simp only [Act.put, List.setIfInBounds_toArray, List.set_cons_succ, List.set_cons_zero]
  refine ⟨.inl ⟨rfl, fun dd w' hd hcl hnx hw hC => ?_⟩, fun e => ?_⟩
  · go_simp
    first | exact ⟨rfl, hC⟩ | exact hC
  have e' : vs 26 = _ := e
  rw [e']
  clear e e'
  simp only [Act.put, List.setIfInBounds_toArray, List.set_cons_succ, List.set_cons_zero]
  refine ⟨.inl ⟨rfl, fun dd w' hd hcl hnx hw hC => ?_⟩, fun e => ?_⟩
  · go_simp
    first | exact ⟨rfl, hC⟩ | exact hC
  have e' : vs 27 = _ := e
  rw [e']
  clear e e'
  simp only [Act.put, List.setIfInBounds_toArray, List.set_cons_succ, List.set_cons_zero]
  refine ⟨.inl ⟨rfl, fun dd w' hd hcl hnx hw hC => ?_⟩, fun e => ?_⟩
  · go_simp
    refine (full13_any 1 w').mono ?_
    rintro e w2 ⟨rfl, h⟩
    exact ⟨_, rfl, rfl, hC.on hC0.out h⟩
  have e' : vs 28 = _ := e
  rw [e']
  clear e e'
  simp only [Act.put, List.setIfInBounds_toArray, List.set_cons_succ, List.set_cons_zero]
  refine ⟨.inl ⟨rfl, fun dd w' hd hcl hnx hw hC => ?_⟩, fun e => ?_⟩
  · have h26 : dd 26 = true := hw 26 (by kernel_rfl)
    have h25 : dd 25 = true := hcl 26 25 (by kernel_rfl) h26
    have h24 : dd 24 = true := hcl 25 24 (by kernel_rfl) h25
    have h23 : dd 23 = true := hcl 24 23 (by kernel_rfl) h24
    have hc : AwS repB w.heap.size w g m1 m2 gX gY (stK (dd 23) (dd 29)) (stB (dd 23) (dd 29)) w' := hC
    rw [show dd 29 = false from hd, h23] at hc
    obtain ⟨F', p1, p2, p3⟩ := hc.pp
    go_simp
    refine (hC0.out.write (b := aw3) p1 (by show 12 + 2 + 2 ≤ _; omega) 1 1 f1 (fun _ => by show 1 < 256; omega)).mono ?_
    rintro e w2 ⟨rfl, ho⟩
    have hq := hc.io (k2 := 16) (b2 := aw4) p2 p3 ho
    refine ⟨_, rfl, rfl, ?_⟩
    exact hq
  have e' : vs 29 = _ := e
  rw [e']
  clear e e'
  simp only [Act.put, List.setIfInBounds_toArray, List.set_cons_succ, List.set_cons_zero]
  refine ⟨.inl ⟨rfl, fun dd w' hd hcl hnx hw hC => ?_⟩, fun e => ?_⟩
  · go_simp
    first | exact ⟨rfl, hC⟩ | exact hC
  have e' : vs 30 = _ := e
  rw [e']
  clear e e'
  simp only [Act.put, List.setIfInBounds_toArray, List.set_cons_succ, List.set_cons_zero]
  refine ⟨.inl ⟨rfl, fun dd w' hd hcl hnx hw hC => ?_⟩, fun e => ?_⟩
  · go_simp
    first | exact ⟨rfl, hC⟩ | exact hC
  have e' : vs 31 = _ := e
  rw [e']
  clear e e'
  simp only [Act.put, List.setIfInBounds_toArray, List.set_cons_succ, List.set_cons_zero]
  refine ⟨.inl ⟨rfl, fun dd w' hd hcl hnx hw hC => ?_⟩, fun e => ?_⟩
  · go_simp
    first | exact ⟨rfl, hC⟩ | exact hC
  have e' : vs 32 = _ := e
  rw [e']
  clear e e'
  simp only [Act.put, List.setIfInBounds_toArray, List.set_cons_succ, List.set_cons_zero]
  refine ⟨.inl ⟨rfl, fun dd w' hd hcl hnx hw hC => ?_⟩, fun e => ?_⟩
  · go_simp
    first | exact ⟨rfl, hC⟩ | exact hC
  have e' : vs 33 = _ := e
  rw [e']
  clear e e'
  simp only [Act.put, List.setIfInBounds_toArray, List.set_cons_succ, List.set_cons_zero]
  refine ⟨.inl ⟨rfl, fun dd w' hd hcl hnx hw hC => ?_⟩, fun e => ?_⟩
  · have h32 : dd 32 = true := hw 32 (by kernel_rfl)
    have h31 : dd 31 = true := hcl 32 31 (by kernel_rfl) h32
    have h30 : dd 30 = true := hcl 31 30 (by kernel_rfl) h31
    have h29 : dd 29 = true := hcl 30 29 (by kernel_rfl) h30
    have hc : AwS repB w.heap.size w g m1 m2 gX gY (stK (dd 23) (dd 29)) (stB (dd 23) (dd 29)) w' := hC
    rw [h29] at hc
    obtain ⟨F', p1, p2, p3⟩ := hc.pp
    go_simp
    refine (hC0.out.off (b := aw4) p1).mono ?_
    rintro e w2 ⟨rfl, h⟩
    exact ⟨_, rfl, rfl, hC.on hC0.out h⟩
  have e' : vs 34 = _ := e
  rw [e']
  clear e e'
  simp only [Act.put, List.setIfInBounds_toArray, List.set_cons_succ, List.set_cons_zero]
  refine ⟨.inl ⟨rfl, fun dd w' hd hcl hnx hw hC => ?_⟩, fun e => ?_⟩
  · go_simp
    first | exact ⟨rfl, hC⟩ | exact hC
  have e' : vs 35 = _ := e
  rw [e']
  clear e e'
  simp only [Act.put, List.setIfInBounds_toArray, List.set_cons_succ, List.set_cons_zero]
  refine ⟨.inl ⟨rfl, fun dd w' hd hcl hnx hw hC => ?_⟩, fun e => ?_⟩
  · go_simp
    first | exact ⟨rfl, hC⟩ | exact hC
  have e' : vs 36 = _ := e
  rw [e']
  clear e e'
  simp only [Act.put, List.setIfInBounds_toArray, List.set_cons_succ, List.set_cons_zero]
  refine ⟨.inl ⟨rfl, fun dd w' hd hcl hnx hw hC => ?_⟩, fun e => ?_⟩
  · go_simp
    first | exact ⟨rfl, hC⟩ | exact hC
  have e' : vs 37 = _ := e
  rw [e']
  clear e e'
  simp only [Act.put, List.setIfInBounds_toArray, List.set_cons_succ, List.set_cons_zero]
  refine ⟨.inl ⟨rfl, fun dd w' hd hcl hnx hw hC => ?_⟩, fun e => ?_⟩
  · have h36 : dd 36 = true := hw 36 (by kernel_rfl)
    have h35 : dd 35 = true := hcl 36 35 (by kernel_rfl) h36
    have h34 : dd 34 = true := hcl 35 34 (by kernel_rfl) h35
    have h32 : dd 32 = true := hcl 34 32 (by kernel_rfl) h34
    have h31 : dd 31 = true := hcl 32 31 (by kernel_rfl) h32
    have h30 : dd 30 = true := hcl 31 30 (by kernel_rfl) h31
    have h29 : dd 29 = true := hcl 30 29 (by kernel_rfl) h30
    have hc : AwS repB w.heap.size w g m1 m2 gX gY (stK (dd 23) (dd 29)) (stB (dd 23) (dd 29)) w' := hC
    rw [h29] at hc
    obtain ⟨F', p1, p2, p3⟩ := hc.pp
    go_simp
    refine (hC0.out.count (b := aw4) p1).mono ?_
    rintro e w2 ⟨rfl, h⟩
    exact ⟨_, rfl, rfl, hC.on hC0.out h⟩
  have e' : vs 38 = _ := e
  rw [e']
  clear e e'
  simp only [Act.put, List.setIfInBounds_toArray, List.set_cons_succ, List.set_cons_zero]
  refine ⟨.inl ⟨rfl, fun dd w' hd hcl hnx hw hC => ?_⟩, fun e => ?_⟩
  · go_simp
    first | exact ⟨rfl, hC⟩ | exact hC
  have e' : vs 39 = _ := e
  rw [e']
  clear e e'
  simp only [Act.put, List.setIfInBounds_toArray, List.set_cons_succ, List.set_cons_zero]
  refine ⟨.inl ⟨rfl, fun dd w' hd hcl hnx hw hC => ?_⟩, fun e => ?_⟩
  · go_simp
    first | exact ⟨rfl, hC⟩ | exact hC
  have e' : vs 40 = _ := e
  rw [e']
  clear e e'
  simp only [Act.put, List.setIfInBounds_toArray, List.set_cons_succ, List.set_cons_zero]
  intro dd w7 hall hC
  have BE := hid hC.bel
  clear hC hall
  go_wp2_with fail
  go_ret
  exact ⟨rfl, BE.out⟩
end BuP
end Go.Proofs.Ytablkaofaedpeaa
set_option maxRecDepth 100000
namespace Go.Proofs.Ytablkaofaedpeaa
open Go.ChangeShapes Go.WideShapes Go.ChangeAt Go.RowKit
attribute [local go_sem] Gives GivesE
namespace BuP
open BuM MbM MbP
/-- The step; the bus behind i reads. -/
def seSt (n : Nat) (s : Nat → Nat) : Stp := ⟨n, 1, 0, 3, 0, s, []⟩
def seMb (n : Nat) (s : Nat → Nat) (i : Nat) : St := if i ≤ n then made 4 else MbM.seT (made 4) 3 s
def seB (n : Nat) (s : Nat → Nat) (i : Nat) (L : List BuM.Ent) : Bs := ⟨[seMb n s i, made 4], (0, ClP.zero), [seSt n s], false, L⟩
theorem se_ahead (n : Nat) (s : Nat → Nat) (i : Nat) (L : List BuM.Ent) (hL : L.length = i) : BuM.ahead (seB n s i L) = seB n s (i + 1) L := by
  unfold BuM.ahead seB
  have h : hands L.length [seSt n s] ([seMb n s i, made 4], false) = ([seMb n s (i + 1), made 4], false) := by
    rw [hands_cons]
    show hand L.length (seSt n s) ([seMb n s i, made 4], false) = _
    rw [hL]
    unfold hand
    by_cases e : n = i
    · subst e
      rw [if_pos (show (seSt n s).a = (n : Int) from rfl), if_neg (show ¬ (seSt n s).kind = 6 by show ¬ (1 : Int) = 6; omega)]
      have h1 : seMb n s n = made 4 := if_pos (Nat.le_refl _)
      have h2 : seMb n s (n + 1) = MbM.seT (made 4) 3 s := if_neg (by omega)
      rw [h1, h2]
      rfl
    · rw [if_neg (show ¬ (seSt n s).a = (i : Int) by show ¬ (n : Int) = i; omega)]
      unfold seMb
      by_cases h : i ≤ n
      · rw [if_pos h, if_pos (by omega)]
      · rw [if_neg h, if_neg (by omega)]
  show (⟨(hands L.length [seSt n s] ([seMb n s i, made 4], false)).1, (0, ClP.zero), [seSt n s], (hands L.length [seSt n s] ([seMb n s i, made 4], false)).2, L⟩ : Bs) = _
  rw [h]
theorem se_read (n : Nat) (s : Nat → Nat) (i : Nat) (L : List BuM.Ent) (hL : L.length = i) : BuM.rdB (BuM.ahead (seB n s i L)) 0 3 = ⟨1, 0, 3, if i < n then (fun _ => 0) else s, 0⟩ := by
  rw [se_ahead n s i L hL]
  by_cases h : i < n
  · rw [if_pos h]
    have : seB n s (i + 1) L = ⟨[made 4, made 4], (0, ClP.zero), [seSt n s], false, L⟩ := by unfold seB seMb; rw [if_pos (by omega)]
    rw [this]; rfl
  · rw [if_neg h]
    have : seB n s (i + 1) L = ⟨[MbM.seT (made 4) 3 s, made 4], (0, ClP.zero), [seSt n s], false, L⟩ := by unfold seB seMb; rw [if_neg (by omega)]
    rw [this]; rfl
theorem se_next (n : Nat) (s : Nat → Nat) (i : Nat) (L : List BuM.Ent) (hL : L.length = i) : BuM.rdT (seB n s i L) 0 3 = seB n s (i + 1) (L ++ [⟨1, 0, 3, if i < n then (fun _ => 0) else s, 0⟩]) := by
  unfold BuM.rdT
  rw [se_read n s i L hL, se_ahead n s i L hL]; rfl
theorem se_hurt (n : Nat) (s : Nat → Nat) (i : Nat) (L : List BuM.Ent) (h : n < i) : ((seB n s i L).ms[0]?.map (·.hurt)) = some true := by
  show some (seMb n s i).hurt = some true
  unfold seMb
  rw [if_neg (by omega)]; rfl
theorem built_ss (n : Int) (s : Nat → Nat) : Try.prog.built 67 [(0, .int .i64 n), (1, .int .i64 1), (3, .int .i64 3), (5, .agg (ar 64 s))] = some (stL (⟨n, 1, 0, 3, 0, s, []⟩, ⟨none, 0⟩)).toArray := by kernel_rfl
section
variable {ops : Array Oper} {Q : Exit → Act → World → Prop} {a : Act} {w : World} {rest : List Oper} {dst : Option Tmp} {ty : TypeId} {pos : String} {after : Array Edge} {x y : Operand} {n : Int} {s : Nat → Nat}
theorem wblSs (hx : a.eval x = .int .i64 n) (hy : a.eval y = .agg (ar 64 s)) (hk : wpList Try.prog ops Q rest (a.put dst (.agg (stL (⟨n, 1, 0, 3, 0, s, []⟩, ⟨none, 0⟩)).toArray)) w) : wpList Try.prog ops Q (⟨dst, .build 67 #[(0, x), (1, .const (.int .i64 1)), (3, .const (.int .i64 3)), (5, y)], ty, pos, after, none⟩ :: rest) a w := by
  have hr : (Instr.build 67 #[(0, .int .i64 n), (1, .int .i64 1), (3, .int .i64 3), (5, .agg (ar 64 s))]).run Try.prog w = .ok (.agg (stL (⟨n, 1, 0, 3, 0, s, []⟩, ⟨none, 0⟩)).toArray) w := run_build w _ _ _ (built_ss n s)
  have hm : (#[(0, x), (1, .const (.int .i64 1)), (3, .const (.int .i64 3)), (5, y)] : Array (Nat × Operand)).map (fun (i, x) => (i, a.eval x)) = #[(0, .int .i64 n), (1, .int .i64 1), (3, .int .i64 3), (5, .agg (ar 64 s))] := by
    simp only [List.map_toArray, List.map_cons, List.map_nil, hx, hy]; rfl
  refine wpList_plain rfl fun K hK => ?_
  unfold Oper.wp execOp
  simp only [Sem.run_bind, hm, hr, Result.andThen_ok, Sem.run_pure]
  exact hK _ _ hk
end
set_option maxHeartbeats 4000000 in
set_option maxRecDepth 100000 in
theorem sees_law {repB : RepB} (hC : BusC repB) (x : Nat) (hx : x < 256) (s : Nat → Nat) (hs : ∀ j, s j < 256) (W : World) : Calls Try.prog 7 #[.int .u8 (x : Nat), .agg (ar 64 s)] W fun e w' => e = .returned (.bool true) ∧ Below W.heap.size W w' := by
  have HSL := hid hs
  clear hs
  go_enter Try.func7, Try.ntmps7
  go_upto_region 1 with fail
  generalize hw1 : World.alloc W _ = w1
  have b1 := hid (show Below W.heap.size W w1 by rw [← hw1]; exact (Below.refl _ _).alloc (Nat.le_refl _) _)
  have S1 := hid (show Blk w1 W.heap.size 30 (ar 64 s) by rw [← hw1]; exact Blk.new _ _ _)
  clear hw1
  go_upto_region 2 with fail
  obtain ⟨n, hn, hn30⟩ : ∃ n : Nat, (x : Int) % 31 = (n : Int) ∧ n ≤ 30 := ⟨x % 31, by omega, by omega⟩
  rw [hn]
  clear hn
  by_cases hz : ∀ k, k < 64 → s k = 0
  · have he : eqA 64 s (fun _ => 0) = true := eqA_yes hz
    go_wp2_with (first | ((with_reducible apply ldA tSe); rfl; exact S1.out) | ((with_reducible apply bldZr); (kernel_rfl)) | ((with_reducible apply MbO.weqU true uSe' gSe'); rfl; rfl; exact he))
    refine (awake_any hC w1).mono ?_
    rintro e w2 ⟨rfl, h2⟩
    have B2 := hid (b1.out.trans (h2.mono b1.out.size))
    go_wp2_with fail
    go_ret
    exact ⟨rfl, B2.out⟩
  · have he : eqA 64 s (fun _ => 0) = false := by
      cases h : eqA 64 s fun _ => 0 with
      | false => rfl
      | true => exact absurd (eqA_iff.1 h) hz
    have HE := hid he
    clear he
    go_wp2_with (first | ((with_reducible apply ldA tSe); rfl; exact S1.out) | ((with_reducible apply bldZr); (kernel_rfl)) | ((with_reducible apply MbO.weqU false uSe' gSe'); rfl; rfl; exact HE.out) | ((with_reducible apply wblSs (n := (n : Int)) (s := s)); rfl; rfl) | ((with_reducible apply wlit1 eltStP undStP (x := (seSt n s, (⟨none, 0⟩ : SlB)))); omega; rfl; rfl))
    have b2 : Below w1.heap.size w1 (w1.alloc (.cells (stL (seSt n s, (⟨none, 0⟩ : SlB))).toArray 67)) := (Below.refl _ _).alloc (Nat.le_refl _) _
    have l2 := sli_lit1 (S := fun _ => True) eltStP (seSt n s, (⟨none, 0⟩ : SlB)) w1 trivial
    generalize World.alloc w1 _ = w2 at b2 l2 ⊢
    have HL2 := hid l2
    have B2 := hid (b1.out.trans (b2.mono b1.out.size))
    have S2 := hid (S1.out.below b2 S1.out.lt)
    have hs0 := S1.out.lt
    have hs2 := b2.size
    clear l2 b2
    refine (two_any hC (steps := [seSt n s]) (sl := [⟨none, 0⟩]) (Sp := fun _ => False) HL2.out rfl (by omega) (fun s' y hy => ?_) (fun q e => e.elim)).mono ?_
    · have hy' : (s', y) = (seSt n s, (⟨none, 0⟩ : SlB)) := by simpa using hy
      cases hy'
      exact ⟨⟨rfl, Nat.le_refl _, Nat.zero_le _, (fun x hx => by cases hx), fun _ => ⟨rfl, rfl⟩, Byt.none rfl⟩, by show 0 ≤ _; omega, ⟨HSL.out, fun p hp => by cases hp⟩, fun q o h0 _ => by cases h0⟩
    rintro e w3 ⟨g, m1, m2, F, rfl, hP, hgs, hm, _, h3⟩
    have PP := hid hP
    have HG := hid hgs
    have HM := hid (show ∀ q, mutP F q → W.heap.size ≤ q ∧ q ≠ W.heap.size from fun q e => by have := hm q e; exact ⟨by omega, by omega⟩)
    have B3 := hid (B2.out.trans (h3.mono B2.out.size))
    have S3 := hid (S2.out.below h3 S2.out.lt)
    clear hP hgs hm h3 HL2 S1 S2 b1 B2 hs0 hs2
    unfold MbP.at'
    go_wp2_with fail
    go_loopw [9] (fun u wr => ∃ (i : Nat) (F' : Fq) (L : List BuM.Ent), u = .int .i64 i ∧ i ≤ 32 ∧ Hid (L.length = i) ∧ Hid (Pp repB wr g F' (3 * i) (seB n s i L)) ∧ Hid (F'.gs = [m1, m2]) ∧ Hid (∀ q, mutP F' q → W.heap.size ≤ q ∧ q ≠ W.heap.size) ∧ Hid (Below W.heap.size W wr) ∧ Hid (Blk wr W.heap.size 30 (ar 64 s)))
      (fun u _ => 32 - (intOf u).toNat)
    case atStart => exact ⟨0, F, [], rfl, by omega, hid rfl, hid (by have := PP.out; unfold seB; rw [show seMb n s 0 = made 4 from if_pos (Nat.zero_le _)]; exact this), HG, HM, B3, S3⟩
    case round =>
      clear PP HG HM B3 S3
      obtain ⟨i, F', L, rfl, hi, HLn, HP, HG, HM, HB, HS⟩ := hrel
      by_cases hi32 : i < 32
      · have t1 : (i : Int) < 32 := by omega
        go_wp2_with fail
        refine (hC.read (b := seB n s i L) HP.out (by show 3 * i + 1 + 2 ≤ _; omega) 0 3).mono ?_
        rintro e w4 ⟨rfl, ho⟩
        rw [se_read n s i L HLn.out]
        rw [se_next n s i L HLn.out] at ho
        obtain ⟨F5, p5, g5, c5, mm5, ii5, t5⟩ := ho
        have P5 := hid (show Pp repB w4 g F5 (3 * (i + 1)) (seB n s (i + 1) (L ++ [⟨1, 0, 3, if i < n then (fun _ => 0) else s, 0⟩])) from p5)
        have M5 := hid (show ∀ q, mutP F5 q → W.heap.size ≤ q ∧ q ≠ W.heap.size from fun q e => (mm5 q e).elim (HM.out q) fun x => by have := HS.out.lt; exact ⟨by omega, by omega⟩)
        have B5 := hid (HB.out.trans (t5.below HB.out.size fun q e => (HM.out q e).1))
        have S5 := hid (HS.out.turn t5 fun e => (HM.out _ e).2 rfl)
        have G5 := hid (g5.trans HG.out)
        have L5 := hid (show (L ++ ([⟨1, 0, 3, if i < n then (fun _ => 0) else s, 0⟩] : List BuM.Ent)).length = i + 1 by rw [List.length_append, HLn.out]; rfl)
        clear p5 g5 c5 mm5 ii5 t5 HP HG HM HB HS HLn
        by_cases h : i < n
        · have HE2 := hid (show eqA 64 (fun _ => 0) s = false by
            cases h : eqA 64 (fun _ => 0) s with
            | false => rfl
            | true => exact absurd (fun k hk => (eqA_iff.1 h k hk).symm) hz)
          rw [if_pos h] at P5 L5 ⊢
          go_upto_region 11 with (first | (with_reducible apply alA tSe) | ((with_reducible apply stA tSe); rfl; rfl; exact Blk.new _ _ _))
          generalize hw6 : World.setRow _ _ _ = w6
          have b6 : Below w4.heap.size w4 w6 := by rw [← hw6]; exact below_setRow ((Below.refl _ _).alloc (Nat.le_refl _) _) (Nat.le_refl _) _
          have T6 := hid (show Blk w6 w4.heap.size 30 (ar 64 (fun _ => 0)) by rw [← hw6]; exact (Blk.new w4 _ _).setRow_same _)
          have S6 := hid (S5.out.below b6 S5.out.lt)
          have P6 := hid (P5.out.below hC b6)
          have B6 := hid (B5.out.trans (b6.mono B5.out.size))
          clear hw6 b6 P5 S5 B5
          have u1 : decide (n ≤ i) = false := by simp; omega
          have u1' : ¬ n ≤ i := by omega
          have u2 : decide (i < n) = true := by simp; omega
          refine wp_region_fixed (C := fun w' => Below w6.heap.size w6 w') 20 (Below.refl _ _) ?_
          simp only [List.take_succ_cons, List.take_zero, List.drop_succ_cons, List.drop_zero]
          apply wpK_val
          · rfl
          · intro w' hw'
            go_simp
            first | exact rfl | exact ⟨rfl, hw'⟩
          simp only [Act.put, List.setIfInBounds_toArray, List.set_cons_succ, List.set_cons_zero]
          apply wpK_val
          · rfl
          · intro w' hw'
            go_simp
            first | exact rfl | exact ⟨rfl, hw'⟩
          simp only [Act.put, List.setIfInBounds_toArray, List.set_cons_succ, List.set_cons_zero]
          apply wpK_val
          · rfl
          · intro w' hw'
            go_simp
            first | exact rfl | exact ⟨rfl, hw'⟩
          simp only [Act.put, List.setIfInBounds_toArray, List.set_cons_succ, List.set_cons_zero]
          apply kldA tSe
          · rfl
          · rfl
          · exact fun w' hw' => (T6.out.below hw' T6.out.lt).head
          simp only [Act.put, List.setIfInBounds_toArray, List.set_cons_succ, List.set_cons_zero]
          apply kldA tSe
          · rfl
          · rfl
          · exact fun w' hw' => (S6.out.below hw' S6.out.lt).head
          simp only [Act.put, List.setIfInBounds_toArray, List.set_cons_succ, List.set_cons_zero]
          apply keqU false uSe' gSe'
          · rfl
          · rfl
          · rfl
          · exact HE2.out
          simp only [Act.put, List.setIfInBounds_toArray, List.set_cons_succ, List.set_cons_zero]
          apply wpK_val
          · rfl
          · intro w' hw'
            go_simp
            first | exact rfl | exact ⟨rfl, hw'⟩
          simp only [Act.put, List.setIfInBounds_toArray, List.set_cons_succ, List.set_cons_zero]
          apply wpK_val
          · rfl
          · intro w' hw'
            go_simp
            first | exact rfl | exact ⟨rfl, hw'⟩
          simp only [Act.put, List.setIfInBounds_toArray, List.set_cons_succ, List.set_cons_zero]
          apply wpK_val
          · rfl
          · intro w' hw'
            go_simp
            first | exact rfl | exact ⟨rfl, hw'⟩
          simp only [Act.put, List.setIfInBounds_toArray, List.set_cons_succ, List.set_cons_zero]
          apply wpK_val
          · rfl
          · intro w' hw'
            go_simp
            first | exact rfl | exact ⟨rfl, hw'⟩
          simp only [Act.put, List.setIfInBounds_toArray, List.set_cons_succ, List.set_cons_zero]
          apply wpK_val
          · rfl
          · intro w' hw'
            go_simp
            first | exact rfl | exact ⟨rfl, hw'⟩
          simp only [Act.put, List.setIfInBounds_toArray, List.set_cons_succ, List.set_cons_zero]
          apply wpK_val
          · rfl
          · intro w' hw'
            go_simp
            first | exact rfl | exact ⟨rfl, hw'⟩
          simp only [Act.put, List.setIfInBounds_toArray, List.set_cons_succ, List.set_cons_zero]
          apply kldA tSe
          · rfl
          · rfl
          · exact fun w' hw' => (T6.out.below hw' T6.out.lt).head
          simp only [Act.put, List.setIfInBounds_toArray, List.set_cons_succ, List.set_cons_zero]
          apply kbldZ (hb := run_se0)
          · rfl
          simp only [Act.put, List.setIfInBounds_toArray, List.set_cons_succ, List.set_cons_zero]
          apply keqU true uSe' gSe'
          · rfl
          · rfl
          · rfl
          · exact eqA_yes fun _ _ => rfl
          simp only [Act.put, List.setIfInBounds_toArray, List.set_cons_succ, List.set_cons_zero]
          apply wpK_val
          · rfl
          · intro w' hw'
            go_simp
            first | exact rfl | exact ⟨rfl, hw'⟩
          simp only [Act.put, List.setIfInBounds_toArray, List.set_cons_succ, List.set_cons_zero]
          apply wpK_val
          · rfl
          · intro w' hw'
            go_simp
            first | exact rfl | exact ⟨rfl, hw'⟩
          simp only [Act.put, List.setIfInBounds_toArray, List.set_cons_succ, List.set_cons_zero]
          apply wpK_val
          · rfl
          · intro w' hw'
            go_simp
            first | exact rfl | exact ⟨rfl, hw'⟩
          simp only [Act.put, List.setIfInBounds_toArray, List.set_cons_succ, List.set_cons_zero]
          apply wpK_val
          · rfl
          · intro w' hw'
            go_simp
            first | exact rfl | exact ⟨rfl, hw'⟩
          simp only [Act.put, List.setIfInBounds_toArray, List.set_cons_succ, List.set_cons_zero]
          apply wpK_val
          · rfl
          · intro w' hw'
            go_simp
            first | exact rfl | exact ⟨rfl, hw'⟩
          simp only [Act.put, List.setIfInBounds_toArray, List.set_cons_succ, List.set_cons_zero]
          intro w7 hC7
          replace P6 := hid (P6.out.below hC hC7)
          replace S6 := hid (S6.out.below hC7 S6.out.lt)
          replace B6 := hid (B6.out.trans (hC7.mono B6.out.size))
          clear hC7 T6
          go_wp2_with fail
          go_roundw
          case rel => exact ⟨i + 1, F5, _, by go_num, by omega, L5, P6, G5, M5, B6, S6⟩
          case measure => simp [intOf] <;> omega
        · skip
          rw [if_neg h] at P5 L5 ⊢
          go_upto_region 11 with (first | (with_reducible apply alA tSe) | ((with_reducible apply stA tSe); rfl; rfl; exact Blk.new _ _ _))
          generalize hw6 : World.setRow _ _ _ = w6
          have b6 : Below w4.heap.size w4 w6 := by rw [← hw6]; exact below_setRow ((Below.refl _ _).alloc (Nat.le_refl _) _) (Nat.le_refl _) _
          have T6 := hid (show Blk w6 w4.heap.size 30 (ar 64 s) by rw [← hw6]; exact (Blk.new w4 _ _).setRow_same _)
          have S6 := hid (S5.out.below b6 S5.out.lt)
          have P6 := hid (P5.out.below hC b6)
          have B6 := hid (B5.out.trans (b6.mono B5.out.size))
          clear hw6 b6 P5 S5 B5
          have u1 : decide (n ≤ i) = true := by simp; omega
          have u1' : n ≤ i := by omega
          have u2 : decide (i < n) = false := by simp; omega
          refine wp_region_fixed (C := fun w' => Below w6.heap.size w6 w') 20 (Below.refl _ _) ?_
          simp only [List.take_succ_cons, List.take_zero, List.drop_succ_cons, List.drop_zero]
          apply wpK_val
          · rfl
          · intro w' hw'
            go_simp
            first | exact rfl | exact ⟨rfl, hw'⟩
          simp only [Act.put, List.setIfInBounds_toArray, List.set_cons_succ, List.set_cons_zero]
          apply wpK_val
          · rfl
          · intro w' hw'
            go_simp
            first | exact rfl | exact ⟨rfl, hw'⟩
          simp only [Act.put, List.setIfInBounds_toArray, List.set_cons_succ, List.set_cons_zero]
          apply wpK_val
          · rfl
          · intro w' hw'
            go_simp
            first | exact rfl | exact ⟨rfl, hw'⟩
          simp only [Act.put, List.setIfInBounds_toArray, List.set_cons_succ, List.set_cons_zero]
          apply kldA tSe
          · rfl
          · rfl
          · exact fun w' hw' => (T6.out.below hw' T6.out.lt).head
          simp only [Act.put, List.setIfInBounds_toArray, List.set_cons_succ, List.set_cons_zero]
          apply kldA tSe
          · rfl
          · rfl
          · exact fun w' hw' => (S6.out.below hw' S6.out.lt).head
          simp only [Act.put, List.setIfInBounds_toArray, List.set_cons_succ, List.set_cons_zero]
          apply keqU true uSe' gSe'
          · rfl
          · rfl
          · rfl
          · exact eqA_yes fun _ _ => rfl
          simp only [Act.put, List.setIfInBounds_toArray, List.set_cons_succ, List.set_cons_zero]
          apply wpK_val
          · rfl
          · intro w' hw'
            go_simp
            first | exact rfl | exact ⟨rfl, hw'⟩
          simp only [Act.put, List.setIfInBounds_toArray, List.set_cons_succ, List.set_cons_zero]
          apply wpK_val
          · rfl
          · intro w' hw'
            go_simp
            first | exact rfl | exact ⟨rfl, hw'⟩
          simp only [Act.put, List.setIfInBounds_toArray, List.set_cons_succ, List.set_cons_zero]
          apply wpK_val
          · rfl
          · intro w' hw'
            go_simp
            first | exact rfl | exact ⟨rfl, hw'⟩
          simp only [Act.put, List.setIfInBounds_toArray, List.set_cons_succ, List.set_cons_zero]
          apply wpK_val
          · rfl
          · intro w' hw'
            go_simp
            first | exact rfl | exact ⟨rfl, hw'⟩
          simp only [Act.put, List.setIfInBounds_toArray, List.set_cons_succ, List.set_cons_zero]
          apply wpK_val
          · rfl
          · intro w' hw'
            go_simp
            first | exact rfl | exact ⟨rfl, hw'⟩
          simp only [Act.put, List.setIfInBounds_toArray, List.set_cons_succ, List.set_cons_zero]
          apply wpK_val
          · rfl
          · intro w' hw'
            go_simp
            first | exact rfl | exact ⟨rfl, hw'⟩
          simp only [Act.put, List.setIfInBounds_toArray, List.set_cons_succ, List.set_cons_zero]
          apply kldA tSe
          · rfl
          · rfl
          · exact fun w' hw' => (T6.out.below hw' T6.out.lt).head
          simp only [Act.put, List.setIfInBounds_toArray, List.set_cons_succ, List.set_cons_zero]
          apply kbldZ (hb := run_se0)
          · rfl
          simp only [Act.put, List.setIfInBounds_toArray, List.set_cons_succ, List.set_cons_zero]
          apply keqU false uSe' gSe'
          · rfl
          · rfl
          · rfl
          · exact HE.out
          simp only [Act.put, List.setIfInBounds_toArray, List.set_cons_succ, List.set_cons_zero]
          apply wpK_val
          · rfl
          · intro w' hw'
            go_simp
            first | exact rfl | exact ⟨rfl, hw'⟩
          simp only [Act.put, List.setIfInBounds_toArray, List.set_cons_succ, List.set_cons_zero]
          apply wpK_val
          · rfl
          · intro w' hw'
            go_simp
            first | exact rfl | exact ⟨rfl, hw'⟩
          simp only [Act.put, List.setIfInBounds_toArray, List.set_cons_succ, List.set_cons_zero]
          apply wpK_val
          · rfl
          · intro w' hw'
            go_simp
            first | exact rfl | exact ⟨rfl, hw'⟩
          simp only [Act.put, List.setIfInBounds_toArray, List.set_cons_succ, List.set_cons_zero]
          apply wpK_val
          · rfl
          · intro w' hw'
            go_simp
            first | exact rfl | exact ⟨rfl, hw'⟩
          simp only [Act.put, List.setIfInBounds_toArray, List.set_cons_succ, List.set_cons_zero]
          apply wpK_val
          · rfl
          · intro w' hw'
            go_simp
            first | exact rfl | exact ⟨rfl, hw'⟩
          simp only [Act.put, List.setIfInBounds_toArray, List.set_cons_succ, List.set_cons_zero]
          intro w7 hC7
          replace P6 := hid (P6.out.below hC hC7)
          replace S6 := hid (S6.out.below hC7 S6.out.lt)
          replace B6 := hid (B6.out.trans (hC7.mono B6.out.size))
          clear hC7 T6
          go_wp2_with fail
          go_roundw
          case rel => exact ⟨i + 1, F5, _, by go_num, by omega, L5, P6, G5, M5, B6, S6⟩
          case measure => simp [intOf] <;> omega
      · have t1 : decide ((i : Int) < 32) = false := by simp; omega
        obtain rfl : i = 32 := by omega
        have HT := hid (se_hurt n s 32 L (by omega))
        obtain ⟨st, hst, hh⟩ : ∃ st, (seB n s 32 L).ms[0]? = some st ∧ st.hurt = true := by
          have := HT.out
          cases h : (seB n s 32 L).ms[0]? with
          | none => rw [h] at this; cases this
          | some st => rw [h] at this; exact ⟨st, rfl, by simpa using this⟩
        have hc := MbP.memD_ok.touched (HP.out.mem 0 m1 st (by rw [HG.out]; rfl) hst)
        rw [hh] at hc
        have HTC := hid hc
        clear hc hst hh
        go_wp2_with fail
        refine HTC.out.mono ?_
        rintro e w4 ⟨rfl, h4⟩
        have B4 := hid (HB.out.trans (h4.mono HB.out.size))
        clear h4 HTC HT HP HM HB HS HG HLn
        go_wp2_with fail
        refine (awake_any hC w4).mono ?_
        rintro e w5 ⟨rfl, h5⟩
        have B5 := hid (B4.out.trans (h5.mono B4.out.size))
        clear h5 B4
        go_wp2_with fail
        go_ret
        exact ⟨rfl, B5.out⟩
end BuP
end Go.Proofs.Ytablkaofaedpeaa
set_option maxRecDepth 100000
namespace Go.Proofs.Ytablkaofaedpeaa
open Go.ChangeShapes Go.WideShapes Go.ChangeAt Go.RowKit
attribute [local go_sem] Gives GivesE
namespace BuP
open BuM MbM MbP
/-- What over tells, and leaves. -/
def ovE (b : Bs) (a : ActB) : Nat → Int
  | 1 | 2 => (BuM.wrB (BuM.ahead b) a.m a.i a.s).e
  | 3 => (BuM.flB (BuM.ahead b) a.m).e
  | 4 => (BuM.ceB (BuM.ahead b)).e
  | 5 => (BuM.adB (BuM.ahead b) a.t).e
  | 6 => 0
  | _ => (BuM.rdB (BuM.ahead b) a.m a.i).e
def ovB (b : Bs) (a : ActB) : Nat → Bs
  | 1 | 2 => BuM.wrT b a.m a.i a.s
  | 3 => BuM.flT b a.m
  | 4 => BuM.ceT b
  | 5 => BuM.adT b a.t
  | 6 => b
  | _ => BuM.rdT b a.m a.i
/-- What a bus alone is behind a call: what may be turned was so, or is new. -/
def outS (repB : RepB) (w : World) (g : Nat) (F : Fq) (k : Nat) (b : Bs) (w' : World) : Prop :=
  ∃ F', Pp repB w' g F' k b ∧ F'.gs = F.gs ∧ (∀ q, mutP F' q → mutP F q ∨ w.heap.size ≤ q) ∧ (∀ q, rdP F' q → mutP F q ∨ rdP F q ∨ w.heap.size ≤ q) ∧ Turn (mutP F) w w'
theorem outS.of {repB : RepB} {w w1 w2 : World} {g k : Nat} {F : Fq} {b : Bs} (hb : Below w.heap.size w w1) (h : outQ repB w1 g F k b w2) : outS repB w g F k b w2 := by
  obtain ⟨F', h1, h2, _, h4, h5, h6⟩ := h
  exact ⟨F', h1, h2, fun q e => (h4 q e).imp id fun x => Nat.le_trans hb.size x, fun q e => (h5 q e).imp id fun y => y.imp id fun x => Nat.le_trans hb.size x, (Turn.of_new (S := mutP F) hb).trans h6 fun q e => .inl e⟩
theorem outS.below {repB : RepB} {w w1 w2 : World} {g k : Nat} {F : Fq} {b : Bs} (hC : BusC repB) (h : outS repB w g F k b w1) (hb : Below w1.heap.size w1 w2) : outS repB w g F k b w2 := by
  obtain ⟨F', h1, h2, h4, h5, h6⟩ := h
  exact ⟨F', h1.below hC hb, h2, h4, h5, h6.trans (Turn.of_new (S := fun _ => False) hb) fun _ e => e.elim⟩
set_option maxHeartbeats 4000000 in
set_option maxRecDepth 100000 in
theorem over_any {repB : RepB} (hC : BusC repB) {w : World} {g k : Nat} {F : Fq} {b : Bs} (H : Pp repB w g F k b) (hk : k + b.steps.length + 2 ≤ 8000) (a : ActB) (ha : ∀ j, a.s j < 256) :
    Calls Try.prog 32 #[MbP.at' g, .agg (abL a).toArray] w fun e w' => e = .returned (.int .i64 (ovE b a (kind7 a.d))) ∧ outS repB w g F (k + b.steps.length + 2) (ovB b a (kind7 a.d)) w' := by
  have HH := hid H
  have HA := hid ha
  clear H ha
  unfold MbP.at'
  obtain ⟨kd, hkd⟩ : ∃ z, z = kind7 a.d := ⟨_, rfl⟩
  have kb := kind7_bits a.d
  have kl := kind7_le a.d
  rw [← hkd] at kb kl ⊢
  clear hkd
  obtain ⟨b0, hb0⟩ : ∃ z, z = ovB b a kd := ⟨_, rfl⟩
  obtain ⟨e0, he0⟩ : ∃ z, z = ovE b a kd := ⟨_, rfl⟩
  have HB0 := hid hb0
  have HE0 := hid he0
  rw [← hb0, ← he0]
  clear hb0 he0
  go_enter Try.func32, Try.ntmps32
  go_upto_region 1 with fail
  generalize hw1 : World.alloc w _ = w1
  have b1 := hid (show Below w.heap.size w w1 by rw [← hw1]; exact (Below.refl _ _).alloc (Nat.le_refl _) _)
  have A1 := hid (show Blk w1 w.heap.size 70 (abL a).toArray by rw [← hw1]; exact Blk.new _ _ _)
  have H1 := hid (HH.out.below hC b1.out)
  obtain ⟨gA, hgA⟩ : ∃ n, n = w.heap.size := ⟨_, rfl⟩
  rw [← hgA] at A1 ⊢
  clear hw1 hgA HH
  have p0 : w1.cell? ⟨gA, 0, none⟩ = some (.int .i64 a.d) := ab_d (o := 0) A1.out.whole
  have p1 : w1.cell? ⟨gA, 1, none⟩ = some (.int .i64 a.m) := ab_m (o := 0) A1.out.whole
  have p2 : w1.cell? ⟨gA, 2, none⟩ = some (.int .i64 a.i) := ab_i (o := 0) A1.out.whole
  have q3 := hid (show w1.rangeAt gA 3 (ar 64 a.s).toList from ab_s (o := 0) (a := a) A1.out.whole)
  have q67 := hid (show w1.rangeAt gA 67 (ar 32 a.t).toList from ab_t (o := 0) (a := a) A1.out.whole)
  obtain rfl | rfl | rfl | rfl | rfl | rfl | rfl | rfl : kd = 0 ∨ kd = 1 ∨ kd = 2 ∨ kd = 3 ∨ kd = 4 ∨ kd = 5 ∨ kd = 6 ∨ kd = 7 := by omega
  · have kb' : bits .and .i64 a.d 7 = 0 := kb
    clear kb kl
    go_wp2_with fail
    refine (hC.read H1.out hk a.m a.i).mono ?_
    rintro e w2 ⟨rfl, ho⟩
    obtain ⟨ev, hev⟩ : ∃ z, z = (BuM.rdB (BuM.ahead b) a.m a.i).e := ⟨_, rfl⟩
    rw [← hev]
    have HE1 := hid (show e0 = ev by rw [HE0.out, hev]; rfl)
    have RES := hid (show outS repB w g F (k + b.steps.length + 2) b0 w2 from by rw [HB0.out]; exact outS.of b1.out ho)
    clear ho hev p0 p1 p2 q3 q67 H1 A1 HE0 HB0 HA
    obtain ⟨xv, hxv⟩ : ∃ z, z = (BuM.rdB (BuM.ahead b) a.m a.i).s := ⟨_, rfl⟩
    rw [← hxv]
    clear hxv
    go_upto_region 16 with (first | (with_reducible apply alA tSe) | ((with_reducible apply stA tSe); rfl; rfl; exact Blk.new _ _ _))
    generalize hw4 : World.setRow _ _ _ = w4
    have b4 : Below w2.heap.size w2 w4 := by rw [← hw4]; exact below_setRow ((Below.refl _ _).alloc (Nat.le_refl _) _) (Nat.le_refl _) _
    replace RES := hid (RES.out.below hC b4)
    clear hw4 b4
    go_wp2_with fail
    go_ret
    exact ⟨(by have h9 := HE1.out; subst h9; rfl), RES.out⟩
  · have kb' : bits .and .i64 a.d 7 = 1 := kb
    clear kb kl
    go_wp2_with ((with_reducible apply ldAm tSe); rfl; exact q3.out)
    refine (hC.write H1.out hk a.m a.i a.s HA.out).mono ?_
    rintro e w2 ⟨rfl, ho⟩
    obtain ⟨ev, hev⟩ : ∃ z, z = (BuM.wrB (BuM.ahead b) a.m a.i a.s).e := ⟨_, rfl⟩
    rw [← hev]
    have HE1 := hid (show e0 = ev by rw [HE0.out, hev]; rfl)
    have RES := hid (show outS repB w g F (k + b.steps.length + 2) b0 w2 from by rw [HB0.out]; exact outS.of b1.out ho)
    clear ho hev p0 p1 p2 q3 q67 H1 A1 HE0 HB0 HA
    go_wp2_with fail
    go_ret
    exact ⟨(by have h9 := HE1.out; subst h9; rfl), RES.out⟩
  · have kb' : bits .and .i64 a.d 7 = 2 := kb
    clear kb kl
    go_wp2_with ((with_reducible apply ldAm tSe); rfl; exact q3.out)
    refine (hC.write H1.out hk a.m a.i a.s HA.out).mono ?_
    rintro e w2 ⟨rfl, ho⟩
    obtain ⟨ev, hev⟩ : ∃ z, z = (BuM.wrB (BuM.ahead b) a.m a.i a.s).e := ⟨_, rfl⟩
    rw [← hev]
    have HE1 := hid (show e0 = ev by rw [HE0.out, hev]; rfl)
    have RES := hid (show outS repB w g F (k + b.steps.length + 2) b0 w2 from by rw [HB0.out]; exact outS.of b1.out ho)
    clear ho hev p0 p1 p2 q3 q67 H1 A1 HE0 HB0 HA
    go_wp2_with fail
    go_ret
    exact ⟨(by have h9 := HE1.out; subst h9; rfl), RES.out⟩
  · have kb' : bits .and .i64 a.d 7 = 3 := kb
    clear kb kl
    go_wp2_with fail
    refine (hC.flush H1.out hk a.m).mono ?_
    rintro e w2 ⟨rfl, ho⟩
    obtain ⟨ev, hev⟩ : ∃ z, z = (BuM.flB (BuM.ahead b) a.m).e := ⟨_, rfl⟩
    rw [← hev]
    have HE1 := hid (show e0 = ev by rw [HE0.out, hev]; rfl)
    have RES := hid (show outS repB w g F (k + b.steps.length + 2) b0 w2 from by rw [HB0.out]; exact outS.of b1.out ho)
    clear ho hev p0 p1 p2 q3 q67 H1 A1 HE0 HB0 HA
    go_wp2_with fail
    go_ret
    exact ⟨(by have h9 := HE1.out; subst h9; rfl), RES.out⟩
  · have kb' : bits .and .i64 a.d 7 = 4 := kb
    clear kb kl
    go_wp2_with fail
    refine (hC.cell H1.out hk).mono ?_
    rintro e w2 ⟨rfl, ho⟩
    obtain ⟨ev, hev⟩ : ∃ z, z = (BuM.ceB (BuM.ahead b)).e := ⟨_, rfl⟩
    rw [← hev]
    have HE1 := hid (show e0 = ev by rw [HE0.out, hev]; rfl)
    have RES := hid (show outS repB w g F (k + b.steps.length + 2) b0 w2 from by rw [HB0.out]; exact outS.of b1.out ho)
    clear ho hev p0 p1 p2 q3 q67 H1 A1 HE0 HB0 HA
    obtain ⟨xv, hxv⟩ : ∃ z, z = BuM.ceV (BuM.ahead b) := ⟨_, rfl⟩
    rw [← hxv]
    clear hxv
    go_upto_region 9 with (first | (with_reducible apply alZ' ClP.zCe) | ((with_reducible apply stR (ClP.tCe xv)); rfl; rfl; exact Blk.new _ _ _; exact ClP.ce_size _ _; exact ClP.ce_one _))
    generalize hw4 : World.setRow _ _ _ = w4
    have b4 : Below w2.heap.size w2 w4 := by rw [← hw4]; exact below_setRow ((Below.refl _ _).alloc (Nat.le_refl _) _) (Nat.le_refl _) _
    replace RES := hid (RES.out.below hC b4)
    clear hw4 b4
    go_wp2_with fail
    go_ret
    exact ⟨(by have h9 := HE1.out; subst h9; rfl), RES.out⟩
  · have kb' : bits .and .i64 a.d 7 = 5 := kb
    clear kb kl
    go_wp2_with ((with_reducible apply ldAm ClP.tTg); rfl; exact q67.out)
    refine (hC.adv H1.out hk a.t).mono ?_
    rintro e w2 ⟨rfl, ho⟩
    obtain ⟨ev, hev⟩ : ∃ z, z = (BuM.adB (BuM.ahead b) a.t).e := ⟨_, rfl⟩
    rw [← hev]
    obtain ⟨nv, hnv⟩ : ∃ z, z = BuM.adN (BuM.ahead b) := ⟨_, rfl⟩
    rw [← hnv]
    clear hnv
    have HE1 := hid (show e0 = ev by rw [HE0.out, hev]; rfl)
    have RES := hid (show outS repB w g F (k + b.steps.length + 2) b0 w2 from by rw [HB0.out]; exact outS.of b1.out ho)
    clear ho hev p0 p1 p2 q3 q67 H1 A1 HE0 HB0 HA
    go_wp2_with fail
    go_ret
    exact ⟨(by have h9 := HE1.out; subst h9; rfl), RES.out⟩
  · have kb' : bits .and .i64 a.d 7 = 6 := kb
    clear kb kl
    have RES := hid (show outS repB w g F (k + b.steps.length + 2) b0 w1 from by
      rw [HB0.out]
      exact ⟨F, H1.out.mono (by omega), rfl, fun q e => .inl e, fun q e => .inr (.inl e), Turn.of_new b1.out⟩)
    have HE1 := hid (show e0 = 0 by rw [HE0.out]; rfl)
    clear H1 A1 HE0 HB0 HA p1 p2 q3 q67
    go_wp2_with fail
    go_ret
    exact ⟨(by have h9 := HE1.out; subst h9; rfl), RES.out⟩
  · have kb' : bits .and .i64 a.d 7 = 7 := kb
    clear kb kl
    go_wp2_with fail
    refine (hC.read H1.out hk a.m a.i).mono ?_
    rintro e w2 ⟨rfl, ho⟩
    obtain ⟨ev, hev⟩ : ∃ z, z = (BuM.rdB (BuM.ahead b) a.m a.i).e := ⟨_, rfl⟩
    rw [← hev]
    have HE1 := hid (show e0 = ev by rw [HE0.out, hev]; rfl)
    have RES := hid (show outS repB w g F (k + b.steps.length + 2) b0 w2 from by rw [HB0.out]; exact outS.of b1.out ho)
    clear ho hev p0 p1 p2 q3 q67 H1 A1 HE0 HB0 HA
    obtain ⟨xv, hxv⟩ : ∃ z, z = (BuM.rdB (BuM.ahead b) a.m a.i).s := ⟨_, rfl⟩
    rw [← hxv]
    clear hxv
    go_upto_region 16 with (first | (with_reducible apply alA tSe) | ((with_reducible apply stA tSe); rfl; rfl; exact Blk.new _ _ _))
    generalize hw4 : World.setRow _ _ _ = w4
    have b4 : Below w2.heap.size w2 w4 := by rw [← hw4]; exact below_setRow ((Below.refl _ _).alloc (Nat.le_refl _) _) (Nat.le_refl _) _
    replace RES := hid (RES.out.below hC b4)
    clear hw4 b4
    go_wp2_with fail
    go_ret
    exact ⟨(by have h9 := HE1.out; subst h9; rfl), RES.out⟩
end BuP
end Go.Proofs.Ytablkaofaedpeaa
set_option maxRecDepth 100000
namespace Go.Proofs.Ytablkaofaedpeaa
namespace BuP
open BuM MbM
theorem hands_none (now : Nat) : ∀ (l : List Stp) (x : List St × Bool), (∀ s ∈ l, s.a ≠ (now : Int)) → hands now l x = x
  | [], _, _ => rfl
  | s :: l, x, h => by
    rw [hands_cons, show hand now s x = x from if_neg (h s (List.mem_cons_self ..))]
    exact hands_none now l x fun t ht => h t (List.mem_cons_of_mem _ ht)
theorem ahead_none {b : Bs} (h : ∀ s ∈ b.steps, s.a ≠ (b.log.length : Int)) : BuM.ahead b = b := by
  unfold BuM.ahead
  rw [hands_none _ _ _ h]
theorem wrM_same (b : Bs) (m i : Int) (x : Nat → Nat) : (BuM.wrM b m i x).steps = b.steps ∧ (BuM.wrM b m i x).log = b.log ∧ (BuM.wrM b m i x).off = b.off ∧ (BuM.wrM b m i x).ms.length = b.ms.length ∧ (BuM.wrM b m i x).c = b.c := by
  unfold BuM.wrM BuM.upd
  split
  · exact ⟨rfl, rfl, rfl, List.length_set, rfl⟩
  · exact ⟨rfl, rfl, rfl, rfl, rfl⟩
theorem flM_same (b : Bs) (m : Int) : (BuM.flM b m).steps = b.steps ∧ (BuM.flM b m).log = b.log ∧ (BuM.flM b m).off = b.off ∧ (BuM.flM b m).ms.length = b.ms.length ∧ (BuM.flM b m).c = b.c := by
  unfold BuM.flM BuM.upd
  split
  · exact ⟨rfl, rfl, rfl, List.length_set, rfl⟩
  · exact ⟨rfl, rfl, rfl, rfl, rfl⟩
theorem adM_same (b : Bs) (t : Nat → Nat) : (BuM.adM b t).steps = b.steps ∧ (BuM.adM b t).log = b.log ∧ (BuM.adM b t).off = b.off ∧ (BuM.adM b t).ms = b.ms := by
  unfold BuM.adM
  split
  · exact ⟨rfl, rfl, rfl, rfl⟩
  · split <;> exact ⟨rfl, rfl, rfl, rfl⟩
theorem put_same (b : Bs) (x : BuM.Ent) : (BuM.put b x).steps = b.steps ∧ (BuM.put b x).log.length = b.log.length + 1 ∧ (BuM.put b x).off = b.off ∧ (BuM.put b x).ms = b.ms := ⟨rfl, by show (b.log ++ [x]).length = _; rw [List.length_append]; rfl, rfl, rfl⟩
theorem ahead_same (b : Bs) : (BuM.ahead b).steps = b.steps ∧ (BuM.ahead b).log = b.log ∧ (BuM.ahead b).ms.length = b.ms.length ∧ (BuM.ahead b).c = b.c := ⟨rfl, rfl, hands_len _ _ _, rfl⟩
/-- What each I/O leaves. -/
structure Kept (b b' : Bs) : Prop where
  steps : b'.steps = b.steps
  log : b'.log.length = b.log.length + 1
  off : b'.off = (BuM.ahead b).off
  ms : b'.ms.length = b.ms.length
theorem rdT_kept (b : Bs) (m i : Int) : Kept b (BuM.rdT b m i) := ⟨rfl, (put_same _ _).2.1, rfl, (ahead_same b).2.2.1⟩
theorem wrT_kept (b : Bs) (m i : Int) (x : Nat → Nat) : Kept b (BuM.wrT b m i x) := by
  have h := wrM_same (BuM.ahead b) m i x
  exact ⟨h.1, by rw [show BuM.wrT b m i x = BuM.put (BuM.wrM (BuM.ahead b) m i x) (BuM.wrB (BuM.ahead b) m i x) from rfl, (put_same _ _).2.1, h.2.1]; rfl, h.2.2.1, h.2.2.2.1.trans (ahead_same b).2.2.1⟩
theorem flT_kept (b : Bs) (m : Int) : Kept b (BuM.flT b m) := by
  have h := flM_same (BuM.ahead b) m
  exact ⟨h.1, by rw [show BuM.flT b m = BuM.put (BuM.flM (BuM.ahead b) m) (BuM.flB (BuM.ahead b) m) from rfl, (put_same _ _).2.1, h.2.1]; rfl, h.2.2.1, h.2.2.2.1.trans (ahead_same b).2.2.1⟩
theorem ceT_kept (b : Bs) : Kept b (BuM.ceT b) := ⟨rfl, (put_same _ _).2.1, rfl, (ahead_same b).2.2.1⟩
theorem adT_kept (b : Bs) (t : Nat → Nat) : Kept b (BuM.adT b t) := by
  have h := adM_same (BuM.ahead b) t
  exact ⟨h.1, by rw [show BuM.adT b t = BuM.put (BuM.adM (BuM.ahead b) t) (BuM.adB (BuM.ahead b) t) from rfl, (put_same _ _).2.1, h.2.1]; rfl, h.2.2.1, (congrArg List.length h.2.2.2).trans (ahead_same b).2.2.1⟩
theorem ov_kept (b : Bs) (a : ActB) (K : Nat) (hK : K ≠ 6) : Kept b (ovB b a K) := by
  unfold ovB
  split
  · exact wrT_kept _ _ _ _
  · exact wrT_kept _ _ _ _
  · exact flT_kept _ _
  · exact ceT_kept _
  · exact adT_kept _ _
  · exact absurd rfl hK
  · exact rdT_kept _ _ _
/-- While the power is gone. -/
theorem ov_off {b : Bs} (ho : (BuM.ahead b).off = true) (a : ActB) (K : Nat) (hK : K ≠ 6) : ovE b a K = 13 ∧ (ovB b a K).ms = (BuM.ahead b).ms ∧ (ovB b a K).off = true := by
  have hm : ∀ m, BuM.may (BuM.ahead b) m = 13 := fun m => by unfold BuM.may; rw [ho, if_pos rfl]
  have hn : ∀ m, ¬ BuM.may (BuM.ahead b) m = 0 := fun m => by rw [hm]; omega
  unfold ovE ovB
  split
  · refine ⟨?_, ?_, ?_⟩
    · unfold BuM.wrB; rw [if_neg (hn _)]; exact hm _
    · show (BuM.wrM (BuM.ahead b) a.m a.i a.s).ms = _; unfold BuM.wrM; rw [if_neg (hn _)]
    · show (BuM.wrM (BuM.ahead b) a.m a.i a.s).off = _; unfold BuM.wrM; rw [if_neg (hn _)]; exact ho
  · refine ⟨?_, ?_, ?_⟩
    · unfold BuM.wrB; rw [if_neg (hn _)]; exact hm _
    · show (BuM.wrM (BuM.ahead b) a.m a.i a.s).ms = _; unfold BuM.wrM; rw [if_neg (hn _)]
    · show (BuM.wrM (BuM.ahead b) a.m a.i a.s).off = _; unfold BuM.wrM; rw [if_neg (hn _)]; exact ho
  · refine ⟨?_, ?_, ?_⟩
    · unfold BuM.flB; rw [if_neg (hn _)]; exact hm _
    · show (BuM.flM (BuM.ahead b) a.m).ms = _; unfold BuM.flM; rw [if_neg (hn _)]
    · show (BuM.flM (BuM.ahead b) a.m).off = _; unfold BuM.flM; rw [if_neg (hn _)]; exact ho
  · refine ⟨?_, rfl, ho⟩
    unfold BuM.ceB; rw [if_pos ho]
  · refine ⟨?_, ?_, ?_⟩
    · show BuM.adE (BuM.ahead b) = 13; unfold BuM.adE; rw [if_pos ho]
    · show (BuM.adM (BuM.ahead b) a.t).ms = _; unfold BuM.adM; rw [if_pos ho]
    · show (BuM.adM (BuM.ahead b) a.t).off = _; unfold BuM.adM; rw [if_pos ho]; exact ho
  · exact absurd rfl hK
  · refine ⟨?_, rfl, ho⟩
    unfold BuM.rdB; rw [if_neg (hn _)]; exact hm _
/-- The acts that count as I/Os. -/
def ios (l : List ActB) : Nat := l.countP fun a => decide (kind7 a.d ≠ 6)
theorem ios_step {l : List ActB} {j : Nat} {a : ActB} (h : l[j]? = some a) : ios (l.take (j + 1)) = ios (l.take j) + if kind7 a.d = 6 then 0 else 1 := by
  unfold ios
  rw [List.take_add_one, h, Option.toList_some, List.countP_append, List.countP_cons, List.countP_nil]
  by_cases e : kind7 a.d = 6
  · simp [e]
  · simp [e]
theorem ios_le (l : List ActB) (j : Nat) : ios (l.take j) ≤ ios l := (List.take_sublist j l).countP_le
theorem ios_len (l : List ActB) : ios l ≤ l.length := List.countP_le_length
theorem crash_len (p : List Nat) : ∀ (l : List St) (i : Nat) (st : St), l[i]? = some st → ∃ q, (crashAll l p)[i]? = some (crash st q)
  | [], _, _, h => by simp at h
  | x :: l, 0, st, h => by
    simp only [List.getElem?_cons_zero, Option.some.injEq] at h
    subst h
    exact ⟨_, rfl⟩
  | x :: l, i + 1, st, h => by
    rw [List.getElem?_cons_succ] at h
    rw [crashAll, List.getElem?_cons_succ]
    exact crash_len (p.drop x.log.length) l i st h
end BuP
end Go.Proofs.Ytablkaofaedpeaa
set_option maxRecDepth 100000
namespace Go.Proofs.Ytablkaofaedpeaa
open Go.ChangeShapes Go.WideShapes Go.ChangeAt Go.RowKit
attribute [local go_sem] Gives GivesE
namespace BuP
open BuM MbM MbP
theorem tAb (a : ActB) : RowT 70 (abL a).toArray.size := by
  rw [List.size_toArray, abL_len]
  exact ⟨by kernel_rfl, _, Try.underlying70, rfl⟩
section
variable {ops : Array Oper} {Q : Exit → Act → World → Prop} {a : Act} {w : World} {rest : List Oper} {dst : Option Tmp} {ty T : TypeId} {pos : String} {after : Array Edge} {x : Operand} {g o : Nat} {cs : Array Value} {gd : Option (Nat × Bool)}
/-- A row loaded, behind a guard. -/
theorem ldRg (hT : RowT T cs.size) (hw : Region.wanted ⟨dst, .load T x, ty, pos, after, gd⟩ (yielded ops a.tmps) = true) (hx : a.eval x = .pointer (some ⟨g, o, none⟩)) (hb : w.rangeAt g o cs.toList) (h : wpList Try.prog ops Q rest (a.put dst (.agg cs)) w) :
    wpList Try.prog ops Q (⟨dst, .load T x, ty, pos, after, gd⟩ :: rest) a w := by
  have hg : Gives Try.prog ⟨dst, .load T x, ty, pos, after, gd⟩ a w (.agg cs) fun w' => w' = w := gives_value (w' := w) (by simp only [execOp, hx, Sem.run_bind, run_ldR hT hb, Result.andThen_ok, Sem.run_pure]) rfl
  rw [wpList, if_pos hw]
  exact .inl (wp_of_gives hg fun w' e => by subst e; exact h)
end
/-- The crash. -/
def crSt (n : Nat) (picks : List Nat) : Stp := ⟨n, 6, 0, 0, 0, fun _ => 0, picks⟩
theorem built_cr (n : Int) (P : Option Addr) (picks : List Nat) (pc : Nat) : Try.prog.built 67 [(0, .int .i64 n), (1, .int .i64 6), (6, .slice P picks.length pc)] = some (stL (⟨n, 6, 0, 0, 0, fun _ => 0, picks⟩, ⟨P, pc⟩)).toArray := by kernel_rfl
section
variable {ops : Array Oper} {Q : Exit → Act → World → Prop} {a : Act} {w : World} {rest : List Oper} {dst : Option Tmp} {ty : TypeId} {pos : String} {after : Array Edge} {x y : Operand} {n : Int} {P : Option Addr} {picks : List Nat} {pc : Nat}
theorem wblCr (hx : a.eval x = .int .i64 n) (hy : a.eval y = .slice P picks.length pc) (hk : wpList Try.prog ops Q rest (a.put dst (.agg (stL (⟨n, 6, 0, 0, 0, fun _ => 0, picks⟩, ⟨P, pc⟩)).toArray)) w) : wpList Try.prog ops Q (⟨dst, .build 67 #[(0, x), (1, .const (.int .i64 6)), (6, y)], ty, pos, after, none⟩ :: rest) a w := by
  have hr : (Instr.build 67 #[(0, .int .i64 n), (1, .int .i64 6), (6, .slice P picks.length pc)]).run Try.prog w = .ok (.agg (stL (⟨n, 6, 0, 0, 0, fun _ => 0, picks⟩, ⟨P, pc⟩)).toArray) w := run_build w _ _ _ (built_cr n P picks pc)
  have hm : (#[(0, x), (1, .const (.int .i64 6)), (6, y)] : Array (Nat × Operand)).map (fun (i, x) => (i, a.eval x)) = #[(0, .int .i64 n), (1, .int .i64 6), (6, .slice P picks.length pc)] := by
    simp only [List.map_toArray, List.map_cons, List.map_nil, hx, hy]; rfl
  refine wpList_plain rfl fun K hK => ?_
  unfold Oper.wp execOp
  simp only [Sem.run_bind, hm, hr, Result.andThen_ok, Sem.run_pure]
  exact hK _ _ hk
end
theorem cr_ahead {b : Bs} {n : Nat} {picks : List Nat} (h1 : b.steps = [crSt n picks]) (h2 : b.log.length = n) : BuM.ahead b = { b with ms := crashAll b.ms picks, off := true } := by
  unfold BuM.ahead
  rw [h1, h2, hands_cons]
  have : hand n (crSt n picks) (b.ms, b.off) = (crashAll b.ms picks, true) := by
    unfold hand
    rw [if_pos (show (crSt n picks).a = (n : Int) from rfl), if_pos (show (crSt n picks).kind = 6 from rfl)]; rfl
  rw [this]
  rfl
/-- A bus of two members, behind some acts. -/
structure Alone (repB : RepB) (W w : World) (g m1 m2 : Nat) (F : Fq) (k : Nat) (b : Bs) : Prop where
  pp : Pp repB w g F k b
  gs : F.gs = [m1, m2]
  low : ∀ q, mutP F q → W.heap.size ≤ q
  bel : Below W.heap.size W w
section
variable {repB : RepB} {W w w' : World} {g m1 m2 k k' : Nat} {F : Fq} {b b' : Bs}
theorem Alone.below (hC : BusC repB) (H : Alone repB W w g m1 m2 F k b) (hb : Below w.heap.size w w') : Alone repB W w' g m1 m2 F k b :=
  ⟨H.pp.below hC hb, H.gs, H.low, H.bel.trans (hb.mono H.bel.size)⟩
theorem Alone.out (H : Alone repB W w g m1 m2 F k b) (ho : outS repB w g F k' b' w') : ∃ F', Alone repB W w' g m1 m2 F' k' b' ∧ (∀ q, mutP F' q → mutP F q ∨ w.heap.size ≤ q) ∧ (∀ q, rdP F' q → mutP F q ∨ rdP F q ∨ w.heap.size ≤ q) ∧ Turn (mutP F) w w' := by
  obtain ⟨F', h1, h2, h4, h5, h6⟩ := ho
  exact ⟨F', ⟨h1, h2.trans H.gs, fun q e => (h4 q e).elim (H.low q) fun x => Nat.le_trans H.bel.size x, H.bel.trans (h6.below H.bel.size H.low)⟩, h4, h5, h6⟩
theorem outS.ofQ (h : outQ repB w g F k b w') : outS repB w g F k b w' := outS.of (Below.refl _ _) h
end
set_option maxHeartbeats 8000000 in
set_option maxRecDepth 100000 in
theorem off_law {repB : RepB} (hC : BusC repB) {W : World} {A1 A2 P : Option Addr} {la1 la2 : List ActB} {n1 c1 n2 c2 pc : Nat} {picks : List Nat} (h1 : Sli 99 abL (fun b => b < W.heap.size) W A1 la1 n1 c1) (h2 : Sli 99 abL (fun b => b < W.heap.size) W A2 la2 n2 c2) (hp : Arg W P picks picks.length pc)
    (b1 : ∀ a ∈ la1, ∀ j, a.s j < 256) (b2 : ∀ a ∈ la2, ∀ j, a.s j < 256) : Calls Try.prog 5 #[.slice A1 n1 c1, .slice A2 n2 c2, .slice P picks.length pc] W fun e w' => e = .returned (.bool true) ∧ Below W.heap.size W w' := by
  have L1 := hid h1
  have L2 := hid h2
  have LP := hid hp
  have K1 := hid b1
  have K2 := hid b2
  have hl1 := h1.len
  have hl2 := h2.len
  obtain ⟨pn, hpn⟩ : ∃ z, z = picks.length := ⟨_, rfl⟩
  have HPN := hid hpn
  rw [← hpn]
  clear h1 h2 hp b1 b2 hpn
  go_enter Try.func5, Try.ntmps5
  by_cases hbig : 30 < n1 ∨ 30 < n2 ∨ 200 < pn
  · have END : ∀ w, Calls Try.prog 10 #[] w fun e w' => e = .returned (.bool true) ∧ Below w.heap.size w w' := awake_any hC
    by_cases x1 : 30 < n1
    · have t1 : decide (30 < n1) = true := by simp; omega
      clear hbig
      go_wp2_with fail
      refine (END W).mono ?_
      rintro e w2 ⟨rfl, h2⟩
      go_wp2_with fail
      go_ret
      exact ⟨rfl, h2⟩
    · have t1 : decide (30 < n1) = false := by simp; omega
      by_cases x2 : 30 < n2
      · have t2 : decide (30 < n2) = true := by simp; omega
        clear hbig
        go_wp2_with fail
        refine (END W).mono ?_
        rintro e w2 ⟨rfl, h2⟩
        go_wp2_with fail
        go_ret
        exact ⟨rfl, h2⟩
      · have t2 : decide (30 < n2) = false := by simp; omega
        have t3 : decide (200 < pn) = true := by simp; omega
        have t3' : 200 < pn := by omega
        clear hbig
        go_wp2_with fail
        refine (END W).mono ?_
        rintro e w2 ⟨rfl, h2⟩
        go_wp2_with fail
        go_ret
        exact ⟨rfl, h2⟩
  · have t1 : decide (30 < n1) = false := by simp; omega
    have t2 : decide (30 < n2) = false := by simp; omega
    have t3 : decide (200 < pn) = false := by simp; omega
    have u1 : n1 ≤ 30 := by omega
    have u2 : n2 ≤ 30 := by omega
    have u3 : pn ≤ 200 := by omega
    clear hbig
    go_wp2_with fail
    clear t1 t2 t3
    go_loopw [7, 8] (fun u7 u8 wr => ∃ i : Nat, u7 = .int .i64 (ios (la1.take i) : Nat) ∧ u8 = .int .i64 i ∧ i ≤ n1 ∧ Hid (Below W.heap.size W wr)) (fun _ u8 _ => n1 - (intOf u8).toNat)
    case atStart => exact ⟨0, rfl, rfl, Nat.zero_le _, hid (Below.refl _ _)⟩
    case round =>
      obtain ⟨i, rfl, rfl, hi, HW⟩ := hrel
      by_cases hin : i < n1
      · have t1 : (i : Int) < (n1 : Int) := by omega
        obtain ⟨a, ha⟩ : ∃ a, la1[i]? = some a := ⟨_, List.getElem?_eq_getElem (by omega)⟩
        obtain ⟨bA, oA, rfl, hbS, hbl, hr⟩ := L1.out.some ha
        have q0 : wr.cell? ⟨bA, oA + i * 99, none⟩ = some (.int .i64 a.d) := (HW.out.cell (p := ⟨bA, oA + i * 99, none⟩) hbl).trans (ab_d hr)
        have kb := kind7_bits a.d
        have kl := kind7_le a.d
        obtain ⟨kd, hkd⟩ : ∃ z, z = kind7 a.d := ⟨_, rfl⟩
        rw [← hkd] at kb kl
        have hst := ios_step ha
        rw [← hkd] at hst
        have hio : ios (la1.take i) ≤ 30 := by have h1 := ios_le la1 i; have h2 := ios_len la1; omega
        have HIO := hid hst
        clear hr hkd hst
        by_cases h6 : kd = 6
        · subst h6
          have hn := HIO.out
          rw [if_pos rfl, Nat.add_zero] at hn
          have HN := hid hn
          clear hn
          go_wp2_with fail
          go_roundw
          case rel => exact ⟨i + 1, by (rw [HN.out]; rfl), by go_num, by omega, HW⟩
          case measure => simp [intOf] <;> omega
        · have hn := HIO.out
          rw [if_neg h6] at hn
          have HN := hid hn
          have t6 : decide (kd = 6) = false := by simp; omega
          have t6' : ((kd : Int) == 6) = false := by simp; omega
          have t6'' : decide ((kd : Int) = 6) = false := by simp; omega
          clear hn
          go_wp2_with fail
          go_roundw
          case rel => exact ⟨i + 1, by rw [HN.out]; go_num, by go_num, by omega, HW⟩
          case measure => simp [intOf] <;> omega
      · have t1 : decide ((i : Int) < (n1 : Int)) = false := by simp; omega
        obtain rfl : n1 = i := by omega
        obtain ⟨nn, hnn⟩ : ∃ z, z = ios (la1.take n1) := ⟨_, rfl⟩
        rw [← hnn]
        have HNN := hid (show ios la1 = nn by rw [hnn, List.take_of_length_le (by omega)])
        have hnx : nn ≤ 30 := by have h1 := ios_len la1; rw [← HNN.out]; omega
        have HPN2 := hid (show Value.slice P pn pc = .slice P picks.length pc by rw [HPN.out])
        clear hnn
        rw [HPN2.out]
        go_wp2_with (first | ((with_reducible apply wblCr (n := (nn : Int)) (picks := picks)); rfl; rfl) | ((with_reducible apply wlit1 eltStP undStP (x := (crSt nn picks, (⟨P, pc⟩ : SlB)))); omega; rfl; rfl))
        have b2 : Below wr.heap.size wr (wr.alloc (.cells (stL (crSt nn picks, (⟨P, pc⟩ : SlB))).toArray 67)) := (Below.refl _ _).alloc (Nat.le_refl _) _
        have l2 := sli_lit1 (S := fun _ => True) eltStP (crSt nn picks, (⟨P, pc⟩ : SlB)) wr trivial
        generalize World.alloc wr _ = w2 at b2 l2 ⊢
        have HL2 := hid l2
        have B2 := hid (HW.out.trans (b2.mono HW.out.size))
        have sW := B2.out.size
        clear l2 b2 HW
        refine (two_any hC (steps := [crSt nn picks]) (sl := [⟨P, pc⟩]) (Sp := fun q => q < W.heap.size) HL2.out rfl (by omega) (fun s' y hy => ?_) (fun q e => Nat.lt_of_lt_of_le e sW)).mono ?_
        · have hy' : (s', y) = (crSt nn picks, (⟨P, pc⟩ : SlB)) := by simpa using hy
          cases hy'
          have hb := LP.out.b256
          refine ⟨LP.out.on B2.out, by show picks.length ≤ _; rw [← HPN.out]; omega, ⟨fun _ => by show 0 < 256; omega, fun p hp => hb p hp⟩, fun q o h0 he => ?_⟩
          obtain ⟨b, o', e', hl, _⟩ := LP.out.byt h0
          have he' : P = some ⟨q, o, none⟩ := he
          rw [he'] at e'
          cases e'
          exact hl
        rintro e w3 ⟨g, m1, m2, F, rfl, hP, hgs, hm, hr, h3⟩
        have AL := hid (show Alone repB W w3 g m1 m2 F 0 (two [crSt nn picks]) from ⟨hP, hgs, fun q e => Nat.le_trans sW (hm q e), B2.out.trans (h3.mono B2.out.size)⟩)
        clear hP hgs hm hr h3 HL2 B2 sW HPN2 t1
        unfold MbP.at'
        go_wp2_with fail
        go_loopw [12] (fun u wr => ∃ (i : Nat) (F' : Fq) (b : Bs), u = .int .i64 i ∧ i ≤ n1 ∧ Hid (Alone repB W wr g m1 m2 F' (3 * i) b) ∧ Hid (b.steps = [crSt nn picks] ∧ b.log.length = ios (la1.take i) ∧ b.off = false ∧ b.ms.length = 2)) (fun u _ => n1 - (intOf u).toNat)
        case atStart => exact ⟨0, F, _, rfl, Nat.zero_le _, AL, hid ⟨rfl, rfl, rfl, rfl⟩⟩
        case round =>
          clear AL
          obtain ⟨i, F', b, rfl, hi, HAL, HBB⟩ := hrel
          by_cases hin : i < n1
          · have t1 : (i : Int) < (n1 : Int) := by omega
            obtain ⟨a, ha⟩ : ∃ a, la1[i]? = some a := ⟨_, List.getElem?_eq_getElem (by omega)⟩
            obtain ⟨bA, oA, rfl, hbS, hbl, hr⟩ := L1.out.some ha
            have R1 := hid (show wr.rangeAt bA (oA + i * 99) (abL a).toArray.toList from fun j v hj => (HAL.out.bel.cell (p := ⟨bA, oA + i * 99 + j, none⟩) hbl).trans (hr j v (by simpa using hj)))
            have HST := hid (ios_step ha)
            have HIO := hid (ios_le la1 (i + 1))
            have HKA := hid (K1.out a (List.mem_of_getElem? ha))
            clear hr ha
            go_wp2_with ((with_reducible apply ldR (cs := (abL a).toArray) (tAb a)); rfl; exact R1.out)
            refine (over_any hC HAL.out.pp (by have := HBB.out.1; rw [this]; show 3 * i + 1 + 2 ≤ _; omega) a HKA.out).mono ?_
            rintro e w4 ⟨rfl, ho⟩
            have ho' : outS repB wr g F' (3 * (i + 1)) (ovB b a (kind7 a.d)) w4 := by
              have := ho
              rw [HBB.out.1] at this
              exact this
            obtain ⟨F2, al2, _, _, _⟩ := HAL.out.out ho'
            have AL2 := hid al2
            have BB2 := hid (show (ovB b a (kind7 a.d)).steps = [crSt nn picks] ∧ (ovB b a (kind7 a.d)).log.length = ios (la1.take (i + 1)) ∧ (ovB b a (kind7 a.d)).off = false ∧ (ovB b a (kind7 a.d)).ms.length = 2 by
              obtain ⟨e1, e2, e3, e4⟩ := HBB.out
              have hs := HST.out
              by_cases h6 : kind7 a.d = 6
              · rw [h6]
                rw [if_pos h6] at hs
                exact ⟨e1, by rw [hs]; exact e2, e3, e4⟩
              · rw [if_neg h6] at hs
                have hk := ov_kept b a _ h6
                have hn : BuM.ahead b = b := ahead_none fun s hs' => by
                  rw [e1] at hs'
                  have : s = crSt nn picks := by simpa using hs'
                  rw [this]
                  show (nn : Int) ≠ _
                  have h1 := HIO.out
                  have h2 := HNN.out
                  omega
                exact ⟨hk.steps.trans e1, by rw [hk.log, e2, hs], by rw [hk.off, hn]; exact e3, hk.ms.trans e4⟩)
            obtain ⟨b', hb'⟩ : ∃ z, z = ovB b a (kind7 a.d) := ⟨_, rfl⟩
            rw [← hb'] at AL2 BB2
            obtain ⟨ev, hev⟩ : ∃ z, z = ovE b a (kind7 a.d) := ⟨_, rfl⟩
            rw [← hev]
            clear ho ho' al2 hb' hev HAL HBB R1 HST HIO HKA
            go_wp2_with fail
            go_roundw
            case rel => exact ⟨i + 1, F2, b', by go_num, by omega, AL2, BB2⟩
            case measure => simp [intOf] <;> omega
          · have t1 : decide ((i : Int) < (n1 : Int)) = false := by simp; omega
            obtain rfl : n1 = i := by omega
            obtain ⟨e1, e2, e3, e4⟩ := HBB.out
            have hlg : b.log.length = nn := by rw [e2, List.take_of_length_le (by omega)]; exact HNN.out
            have hah := cr_ahead e1 hlg
            have HCE := hid (show (BuM.ceB (BuM.ahead b)).e = 13 by unfold BuM.ceB; rw [hah, if_pos rfl])
            have HCV := hid (show BuM.ceV (BuM.ahead b) = (0, ClP.zero) by unfold BuM.ceV; rw [hah, if_pos rfl])
            have hk := ceT_kept b
            have hms : (BuM.ceT b).ms = crashAll b.ms picks := by show (BuM.ahead b).ms = _; rw [hah]
            have hoff : (BuM.ceT b).off = true := by rw [hk.off, hah]
            obtain ⟨x1, hx1⟩ : ∃ x, b.ms[0]? = some x := ⟨_, List.getElem?_eq_getElem (by omega)⟩
            obtain ⟨x2, hx2⟩ : ∃ x, b.ms[1]? = some x := ⟨_, List.getElem?_eq_getElem (by omega)⟩
            obtain ⟨p1, hp1⟩ := crash_len picks b.ms 0 x1 hx1
            obtain ⟨p2, hp2⟩ := crash_len picks b.ms 1 x2 hx2
            obtain ⟨s1, hs1⟩ : ∃ z, z = crash x1 p1 := ⟨_, rfl⟩
            obtain ⟨s2, hs2⟩ : ∃ z, z = crash x2 p2 := ⟨_, rfl⟩
            have l1 : s1.log.length = 0 := by rw [hs1]; rfl
            have l2 : s2.log.length = 0 := by rw [hs2]; rfl
            rw [← hms, ← hs1] at hp1
            rw [← hms, ← hs2] at hp2
            obtain ⟨b1, hb1⟩ : ∃ z, z = BuM.ceT b := ⟨_, rfl⟩
            have HB1 := hid (show b1.steps = [crSt nn picks] ∧ b1.log.length = nn + 1 ∧ b1.off = true ∧ b1.ms[0]? = some s1 ∧ b1.ms[1]? = some s2 from by rw [hb1]; exact ⟨hk.steps.trans e1, by rw [hk.log, hlg], hoff, hp1, hp2⟩)
            have HE1 := hid hb1
            have HL12 := hid (And.intro l1 l2)
            have HS1 := hid e1
            clear e1 e2 e3 e4 hlg hah hk hms hoff hx1 hx2 hp1 hp2 hs1 hs2 l1 l2 hb1 HBB
            go_wp2_with fail
            refine (hC.cell HAL.out.pp (by rw [HS1.out]; show 3 * n1 + 1 + 2 ≤ _; omega)).mono ?_
            rintro e w4 ⟨rfl, ho⟩
            rw [HCE.out, HCV.out]
            have ho' : outS repB wr g F' (3 * n1 + 3) b1 w4 := by
              have := ho
              rw [HS1.out, ← HE1.out] at this
              exact outS.ofQ this
            obtain ⟨F2, al2, _, _, _⟩ := HAL.out.out ho'
            have AL2 := hid al2
            clear ho ho' al2 HAL HCE HCV HE1 HS1
            go_upto_region 17 with (first | (with_reducible apply alZ' ClP.zCe) | ((with_reducible apply stR (ClP.tCe (0, ClP.zero))); rfl; rfl; exact Blk.new _ _ _; exact ClP.ce_size _ _; exact ClP.ce_one _))
            generalize hw5 : World.setRow _ _ _ = w5
            have b5 : Below w4.heap.size w4 w5 := by rw [← hw5]; exact below_setRow ((Below.refl _ _).alloc (Nat.le_refl _) _) (Nat.le_refl _) _
            have C5 := hid (show Blk w5 w4.heap.size 43 (ClP.ceL (0, ClP.zero)).toArray by rw [← hw5]; exact (Blk.new w4 _ _).setRow_same _)
            have AL5 := hid (AL2.out.below hC b5)
            clear hw5 b5 AL2
            have RM1 := hid (AL5.out.pp.mem 0 m1 s1 (by rw [AL5.out.gs]; rfl) HB1.out.2.2.2.1)
            have RM2 := hid (AL5.out.pp.mem 1 m2 s2 (by rw [AL5.out.gs]; rfl) HB1.out.2.2.2.2)
            refine wp_region_fixed (C := fun w' => Below w5.heap.size w5 w') 20 (Below.refl _ _) ?_
            simp only [List.take_succ_cons, List.take_zero, List.drop_succ_cons, List.drop_zero]
            apply wpK_val
            · rfl
            · intro w' hw'
              go_simp
              first | exact rfl | exact ⟨rfl, hw'⟩
            simp only [Act.put, List.setIfInBounds_toArray, List.set_cons_succ, List.set_cons_zero]
            apply wpK_val
            · rfl
            · intro w' hw'
              go_simp
              first | exact rfl | exact ⟨rfl, hw'⟩
            simp only [Act.put, List.setIfInBounds_toArray, List.set_cons_succ, List.set_cons_zero]
            apply wpK_val
            · rfl
            · intro w' hw'
              go_simp
              first | exact rfl | exact ⟨rfl, hw'⟩
            simp only [Act.put, List.setIfInBounds_toArray, List.set_cons_succ, List.set_cons_zero]
            apply kldR (cs := (ClP.ceL (0, ClP.zero)).toArray) (ClP.tCe (0, ClP.zero))
            · rfl
            · rfl
            · exact fun w' hw' => (C5.out.below hw' C5.out.lt).whole
            simp only [Act.put, List.setIfInBounds_toArray, List.set_cons_succ, List.set_cons_zero]
            apply kbldZ (hb := ClP.run_ce0)
            · rfl
            simp only [Act.put, List.setIfInBounds_toArray, List.set_cons_succ, List.set_cons_zero]
            apply ClP.kneC (p := (0, ClP.zero)) (q := (0, ClP.zero)) false
            · rfl
            · rfl
            · rfl
            · rw [ClP.ceq_refl]; rfl
            simp only [Act.put, List.setIfInBounds_toArray, List.set_cons_succ, List.set_cons_zero]
            apply wpK_val
            · rfl
            · intro w' hw'
              go_simp
              first | exact rfl | exact ⟨rfl, hw'⟩
            simp only [Act.put, List.setIfInBounds_toArray, List.set_cons_succ, List.set_cons_zero]
            apply wpK_val
            · rfl
            · intro w' hw'
              go_simp
              first | exact rfl | exact ⟨rfl, hw'⟩
            simp only [Act.put, List.setIfInBounds_toArray, List.set_cons_succ, List.set_cons_zero]
            apply wpK_val
            · rfl
            · intro w' hw'
              go_simp
              first | exact rfl | exact ⟨rfl, hw'⟩
            simp only [Act.put, List.setIfInBounds_toArray, List.set_cons_succ, List.set_cons_zero]
            apply wpK_val
            · rfl
            · intro w' hw'
              go_simp
              exact ((hC.off (AL5.out.below hC hw').pp).mono fun e w6 ⟨h1, h5⟩ => ⟨by rw [HB1.out.2.2.1] at h1; exact h1, hw'.trans (h5.mono hw'.size)⟩)
            simp only [Act.put, List.setIfInBounds_toArray, List.set_cons_succ, List.set_cons_zero]
            apply wpK_val
            · rfl
            · intro w' hw'
              go_simp
              first | exact rfl | exact ⟨rfl, hw'⟩
            simp only [Act.put, List.setIfInBounds_toArray, List.set_cons_succ, List.set_cons_zero]
            apply wpK_val
            · rfl
            · intro w' hw'
              go_simp
              first | exact rfl | exact ⟨rfl, hw'⟩
            simp only [Act.put, List.setIfInBounds_toArray, List.set_cons_succ, List.set_cons_zero]
            apply wpK_val
            · rfl
            · intro w' hw'
              go_simp
              first | exact rfl | exact ⟨rfl, hw'⟩
            simp only [Act.put, List.setIfInBounds_toArray, List.set_cons_succ, List.set_cons_zero]
            apply wpK_val
            · rfl
            · intro w' hw'
              go_simp
              first | exact rfl | exact ⟨rfl, hw'⟩
            simp only [Act.put, List.setIfInBounds_toArray, List.set_cons_succ, List.set_cons_zero]
            apply wpK_val
            · rfl
            · intro w' hw'
              go_simp
              exact ((MbP.memD_ok.unflushed (MbP.memD_ok.frame RM1.out (Turn.of_new (S := fun _ => False) hw') fun _ _ e => e)).mono fun e w6 ⟨h1, h5⟩ => ⟨by rw [HL12.out.1] at h1; exact h1, hw'.trans (h5.mono hw'.size)⟩)
            simp only [Act.put, List.setIfInBounds_toArray, List.set_cons_succ, List.set_cons_zero]
            apply wpK_val
            · rfl
            · intro w' hw'
              go_simp
              first | exact rfl | exact ⟨rfl, hw'⟩
            simp only [Act.put, List.setIfInBounds_toArray, List.set_cons_succ, List.set_cons_zero]
            apply wpK_val
            · rfl
            · intro w' hw'
              go_simp
              exact ((MbP.memD_ok.unflushed (MbP.memD_ok.frame RM2.out (Turn.of_new (S := fun _ => False) hw') fun _ _ e => e)).mono fun e w6 ⟨h1, h5⟩ => ⟨by rw [HL12.out.2] at h1; exact h1, hw'.trans (h5.mono hw'.size)⟩)
            simp only [Act.put, List.setIfInBounds_toArray, List.set_cons_succ, List.set_cons_zero]
            apply wpK_val
            · rfl
            · intro w' hw'
              go_simp
              first | exact rfl | exact ⟨rfl, hw'⟩
            simp only [Act.put, List.setIfInBounds_toArray, List.set_cons_succ, List.set_cons_zero]
            apply wpK_val
            · rfl
            · intro w' hw'
              go_simp
              first | exact rfl | exact ⟨rfl, hw'⟩
            simp only [Act.put, List.setIfInBounds_toArray, List.set_cons_succ, List.set_cons_zero]
            apply wpK_val
            · rfl
            · intro w' hw'
              go_simp
              first | exact rfl | exact ⟨rfl, hw'⟩
            simp only [Act.put, List.setIfInBounds_toArray, List.set_cons_succ, List.set_cons_zero]
            intro w6 hC6
            rw [show IntKind.i64.wrap 0 = 0 from rfl]
            have AL6 := hid (AL5.out.below hC hC6)
            clear AL5 RM1 RM2 C5 hC6 HL12
            have RN1 := hid (AL6.out.pp.mem 0 m1 s1 (by rw [AL6.out.gs]; rfl) HB1.out.2.2.2.1)
            have OK1 := hid (AL6.out.pp.ok.1 s1 (List.mem_of_getElem? HB1.out.2.2.2.1))
            go_wp2_with fail
            refine (MbP.memD_ok.copy RN1.out OK1.out (by omega)).mono ?_
            rintro e w7 ⟨ga, Ma, Ia, rfl, ra, hma, hia, h7⟩
            have AL7 := hid (AL6.out.below hC h7)
            have RA := hid ra
            have NA := hid (show ∀ q, Ma q ∨ Ia q → ¬ mutP F2 q from fun q e e2 => by
              have hl := AL6.out.pp.mlt q e2
              rcases e with e | e
              · have := hma q e; omega
              · rcases hia q e with x | x
                · exact AL6.out.pp.sep q (.inr ⟨0, by rw [AL6.out.gs]; show 0 < 2; omega, x⟩) e2
                · omega)
            clear ra hma hia h7 AL6 RN1
            have RN2 := hid (AL7.out.pp.mem 1 m2 s2 (by rw [AL7.out.gs]; rfl) HB1.out.2.2.2.2)
            have OK2 := hid (AL7.out.pp.ok.1 s2 (List.mem_of_getElem? HB1.out.2.2.2.2))
            unfold MbP.at'
            go_wp2_with fail
            refine (MbP.memD_ok.copy RN2.out OK2.out (by omega)).mono ?_
            rintro e w8 ⟨gb, Mb, Ib, rfl, rb, hmb, hib, h8⟩
            have AL8 := hid (AL7.out.below hC h8)
            have RA8 := hid (MbP.memD_ok.frame RA.out (Turn.of_new (S := fun _ => False) h8) fun _ _ e => e)
            have RB := hid rb
            have NB := hid (show ∀ q, Mb q ∨ Ib q → ¬ mutP F2 q from fun q e e2 => by
              have hl := AL7.out.pp.mlt q e2
              rcases e with e | e
              · have := hmb q e; omega
              · rcases hib q e with x | x
                · exact AL7.out.pp.sep q (.inr ⟨1, by rw [AL7.out.gs]; show 1 < 2; omega, x⟩) e2
                · omega)
            clear rb hmb hib h8 AL7 RN2 RA
            unfold MbP.at'
            go_wp2_with fail
            have NAB := hid (show ∀ q, Ma q ∨ Ia q ∨ Mb q ∨ Ib q → ¬ mutP F2 q from fun q e => by
              rcases e with e | e | e | e
              · exact NA.out q (.inl e)
              · exact NA.out q (.inr e)
              · exact NB.out q (.inl e)
              · exact NB.out q (.inr e))
            have RAB := hid (And.intro RA8.out RB.out)
            have B10 := hid (show b1.steps = [crSt nn picks] ∧ nn < b1.log.length ∧ b1.off = true ∧ b1.ms[0]? = some s1 ∧ b1.ms[1]? = some s2 from ⟨HB1.out.1, by have := HB1.out.2.1; omega, HB1.out.2.2.1, HB1.out.2.2.2.1, HB1.out.2.2.2.2⟩)
            clear NA NB RA8 RB t1
            go_loopw [17] (fun u wr => ∃ (i : Nat) (F' : Fq) (b' : Bs), u = .int .i64 i ∧ i ≤ n2 ∧ Hid (Alone repB W wr g m1 m2 F' (3 * n1 + 3 + 3 * i) b') ∧ Hid (b'.steps = [crSt nn picks] ∧ nn < b'.log.length ∧ b'.off = true ∧ b'.ms[0]? = some s1 ∧ b'.ms[1]? = some s2) ∧
              Hid (RepM wr ga Ma Ia (3 * n1 + 3) s1 ∧ RepM wr gb Mb Ib (3 * n1 + 3) s2) ∧ Hid (∀ q, Ma q ∨ Ia q ∨ Mb q ∨ Ib q → ¬ mutP F' q)) (fun u _ => n2 - (intOf u).toNat)
            case atStart => exact ⟨0, F2, b1, rfl, Nat.zero_le _, AL8, B10, RAB, NAB⟩
            case round =>
              clear AL8 RAB NAB HB1
              obtain ⟨i, F3, b3, rfl, hi, HAL, HBB, HRR, HNN2⟩ := hrel
              by_cases hin : i < n2
              · have t1 : (i : Int) < (n2 : Int) := by omega
                obtain ⟨a, ha⟩ : ∃ a, la2[i]? = some a := ⟨_, List.getElem?_eq_getElem (by omega)⟩
                obtain ⟨bA, oA, rfl, hbS, hbl, hr⟩ := L2.out.some ha
                have R1 := hid (show wr.rangeAt bA (oA + i * 99) (abL a).toArray.toList from fun j v hj => (HAL.out.bel.cell (p := ⟨bA, oA + i * 99 + j, none⟩) hbl).trans (hr j v (by simpa using hj)))
                have q0 : wr.cell? ⟨bA, oA + i * 99, none⟩ = some (.int .i64 a.d) := (HAL.out.bel.cell (p := ⟨bA, oA + i * 99, none⟩) hbl).trans (ab_d hr)
                have HKA := hid (K2.out a (List.mem_of_getElem? ha))
                have kb := kind7_bits a.d
                have kl := kind7_le a.d
                obtain ⟨kd, hkd⟩ : ∃ z, z = kind7 a.d := ⟨_, rfl⟩
                have HKD := hid hkd
                rw [← hkd] at kb kl
                clear hr ha hkd
                by_cases h6 : kd = 6
                · subst h6
                  go_wp2_with fail
                  go_roundw
                  case rel => exact ⟨i + 1, F3, b3, by go_num, by omega, hid ⟨HAL.out.pp.mono (by omega), HAL.out.gs, HAL.out.low, HAL.out.bel⟩, HBB, HRR, HNN2⟩
                  case measure => simp [intOf] <;> omega
                · have t6 : decide (kd = 6) = false := by simp; omega
                  have t6' : ((kd : Int) == 6) = false := by simp; omega
                  have t6'' : decide ((kd : Int) = 6) = false := by simp; omega
                  have t7 : ((kd : Int) != 6) = true := by simp; omega
                  have hah : BuM.ahead b3 = b3 := ahead_none fun s hs' => by
                    rw [HBB.out.1] at hs'
                    have : s = crSt nn picks := by simpa using hs'
                    rw [this]
                    show (nn : Int) ≠ _
                    have := HBB.out.2.1
                    omega
                  have hof := ov_off (b := b3) (by rw [hah]; exact HBB.out.2.2.1) a kd h6
                  rw [hah] at hof
                  have HOF := hid hof
                  have HKP := hid (ov_kept b3 a kd h6)
                  clear hah hof
                  go_wp2_with ((with_reducible apply ldRg (cs := (abL a).toArray) (tAb a)); (first | rfl | (rw [t7]; rfl)); rfl; exact R1.out)
                  refine (over_any hC HAL.out.pp (by have := HBB.out.1; rw [this]; show 3 * n1 + 3 + 3 * i + 1 + 2 ≤ _; omega) a HKA.out).mono ?_
                  rintro e w9 ⟨rfl, ho⟩
                  rw [← HKD.out] at ho ⊢
                  rw [HOF.out.1]
                  have ho' : outS repB wr g F3 (3 * n1 + 3 + 3 * (i + 1)) (ovB b3 a kd) w9 := by
                    have := ho
                    rw [HBB.out.1] at this
                    exact this
                  obtain ⟨F4, al4, mm4, _, t4⟩ := HAL.out.out ho'
                  have AL4 := hid al4
                  have BB4 := hid (show (ovB b3 a kd).steps = [crSt nn picks] ∧ nn < (ovB b3 a kd).log.length ∧ (ovB b3 a kd).off = true ∧ (ovB b3 a kd).ms[0]? = some s1 ∧ (ovB b3 a kd).ms[1]? = some s2 from
                    ⟨HKP.out.steps.trans HBB.out.1, by rw [HKP.out.log]; have := HBB.out.2.1; omega, HOF.out.2.2, by rw [HOF.out.2.1]; exact HBB.out.2.2.2.1, by rw [HOF.out.2.1]; exact HBB.out.2.2.2.2⟩)
                  have RR4 := hid (And.intro (MbP.memD_ok.frame HRR.out.1 t4 fun q e => HNN2.out q (e.elim .inl fun x => .inr (.inl x))) (MbP.memD_ok.frame HRR.out.2 t4 fun q e => HNN2.out q (e.elim (fun x => .inr (.inr (.inl x))) fun x => .inr (.inr (.inr x)))))
                  have NN4 := hid (show ∀ q, Ma q ∨ Ia q ∨ Mb q ∨ Ib q → ¬ mutP F4 q from fun q e e2 => by
                    rcases mm4 q e2 with x | x
                    · exact HNN2.out q e x
                    · have l1 := MbP.memD_ok.lt HRR.out.1 q
                      have l2 := MbP.memD_ok.lt HRR.out.2 q
                      rcases e with e | e | e | e
                      · have := l1 (.inl e); omega
                      · have := l1 (.inr e); omega
                      · have := l2 (.inl e); omega
                      · have := l2 (.inr e); omega)
                  obtain ⟨b4, hb4⟩ : ∃ z, z = ovB b3 a kd := ⟨_, rfl⟩
                  rw [← hb4] at AL4 BB4
                  clear ho ho' al4 mm4 t4 hb4 HOF HKP HAL HBB HRR HNN2 R1 HKA q0
                  go_wp2_with fail
                  go_roundw
                  case rel => exact ⟨i + 1, F4, b4, by go_num, by omega, AL4, BB4, RR4, NN4⟩
                  case measure => simp [intOf] <;> omega
              · have t1 : decide ((i : Int) < (n2 : Int)) = false := by simp; omega
                have hi2 : n2 = i := by omega
                have AL9 := hid (show Alone repB W wr g m1 m2 F3 200 b3 from ⟨HAL.out.pp.mono (by omega), HAL.out.gs, HAL.out.low, HAL.out.bel⟩)
                have RR9 := hid (And.intro (MbP.memD_ok.mono HRR.out.1 (show 3 * n1 + 3 ≤ 200 by omega)) (MbP.memD_ok.mono HRR.out.2 (show 3 * n1 + 3 ≤ 200 by omega)))
                have RM1 := hid (AL9.out.pp.mem 0 m1 s1 (by rw [AL9.out.gs]; rfl) HBB.out.2.2.2.1)
                have RM2 := hid (AL9.out.pp.mem 1 m2 s2 (by rw [AL9.out.gs]; rfl) HBB.out.2.2.2.2)
                clear hi2 HAL HRR HNN2
                obtain ⟨w9, hw9⟩ : ∃ z, z = wr := ⟨_, rfl⟩
                subst hw9
                go_wp2_with fail
                go_loopw [18] (fun u wr => ∃ j : Nat, u = .int .i64 j ∧ j ≤ 4 ∧ Hid (Below w9.heap.size w9 wr)) (fun u _ => 4 - (intOf u).toNat)
                case atStart => exact ⟨0, rfl, by omega, hid (Below.refl _ _)⟩
                case round =>
                  obtain ⟨j, rfl, hj, HV⟩ := hrel
                  by_cases hj4 : j < 4
                  · have t3 : (j : Int) < 4 := by omega
                    have fr : ∀ {gg : Nat} {M I : Nat → Prop} {st : St} {w' : World}, RepM w9 gg M I 200 st → Below w9.heap.size w9 w' → RepM w' gg M I 200 st := fun h hb => MbP.memD_ok.frame h (Turn.of_new (S := fun _ => False) hb) fun _ _ e => e
                    obtain ⟨v1, hv1⟩ : ∃ z, z = rdS s1 (j : Int) := ⟨_, rfl⟩
                    obtain ⟨v2, hv2⟩ : ∃ z, z = rdS s2 (j : Int) := ⟨_, rfl⟩
                    have HV1 := hid hv1
                    have HV2 := hid hv2
                    clear hv1 hv2
                    go_wp2_with fail
                    refine (MbP.memD_ok.read (fr RM1.out HV.out) OK1.out (by omega) (j : Int)).mono ?_
                    rintro e uX ⟨rfl, h5⟩
                    rw [← HV1.out]
                    go_upto_region 29 with (first | (with_reducible apply alA tSe) | ((with_reducible apply stA tSe); rfl; rfl; exact Blk.new _ _ _))
                    generalize hwX : World.setRow _ _ _ = wX
                    have b6 : Below uX.heap.size uX wX := by rw [← hwX]; exact below_setRow ((Below.refl _ _).alloc (Nat.le_refl _) _) (Nat.le_refl _) _
                    have SX := hid (show Blk wX uX.heap.size 30 (ar 64 v1) by rw [← hwX]; exact (Blk.new uX _ _).setRow_same _)
                    replace HV := hid (HV.out.trans ((h5.trans (b6.mono h5.size)).mono HV.out.size))
                    obtain ⟨gX, hgX⟩ : ∃ n, n = uX.heap.size := ⟨_, rfl⟩
                    rw [← hgX] at SX ⊢
                    clear hwX b6 h5 hgX
                    go_wp2_with fail
                    refine (MbP.memD_ok.read (fr RR9.out.1 HV.out) OK1.out (by omega) (j : Int)).mono ?_
                    rintro e uY ⟨rfl, h5⟩
                    rw [← HV1.out]
                    go_upto_region 30 with (first | (with_reducible apply alA tSe) | ((with_reducible apply stA tSe); rfl; rfl; exact Blk.new _ _ _))
                    generalize hwY : World.setRow _ _ _ = wY
                    have b6 : Below uY.heap.size uY wY := by rw [← hwY]; exact below_setRow ((Below.refl _ _).alloc (Nat.le_refl _) _) (Nat.le_refl _) _
                    have SY := hid (show Blk wY uY.heap.size 30 (ar 64 v1) by rw [← hwY]; exact (Blk.new uY _ _).setRow_same _)
                    replace SX := hid (SX.out.below (h5.trans (b6.mono h5.size)) SX.out.lt)
                    replace HV := hid (HV.out.trans ((h5.trans (b6.mono h5.size)).mono HV.out.size))
                    obtain ⟨gY, hgY⟩ : ∃ n, n = uY.heap.size := ⟨_, rfl⟩
                    rw [← hgY] at SY ⊢
                    clear hwY b6 h5 hgY
                    go_wp2_with fail
                    refine (MbP.memD_ok.read (fr RM2.out HV.out) OK2.out (by omega) (j : Int)).mono ?_
                    rintro e uZ ⟨rfl, h5⟩
                    rw [← HV2.out]
                    go_upto_region 31 with (first | (with_reducible apply alA tSe) | ((with_reducible apply stA tSe); rfl; rfl; exact Blk.new _ _ _))
                    generalize hwZ : World.setRow _ _ _ = wZ
                    have b6 : Below uZ.heap.size uZ wZ := by rw [← hwZ]; exact below_setRow ((Below.refl _ _).alloc (Nat.le_refl _) _) (Nat.le_refl _) _
                    have SZ := hid (show Blk wZ uZ.heap.size 30 (ar 64 v2) by rw [← hwZ]; exact (Blk.new uZ _ _).setRow_same _)
                    replace SX := hid (SX.out.below (h5.trans (b6.mono h5.size)) SX.out.lt)
                    replace SY := hid (SY.out.below (h5.trans (b6.mono h5.size)) SY.out.lt)
                    replace HV := hid (HV.out.trans ((h5.trans (b6.mono h5.size)).mono HV.out.size))
                    obtain ⟨gZ, hgZ⟩ : ∃ n, n = uZ.heap.size := ⟨_, rfl⟩
                    rw [← hgZ] at SZ ⊢
                    clear hwZ b6 h5 hgZ
                    go_wp2_with fail
                    refine (MbP.memD_ok.read (fr RR9.out.2 HV.out) OK2.out (by omega) (j : Int)).mono ?_
                    rintro e uT ⟨rfl, h5⟩
                    rw [← HV2.out]
                    go_upto_region 32 with (first | (with_reducible apply alA tSe) | ((with_reducible apply stA tSe); rfl; rfl; exact Blk.new _ _ _))
                    generalize hwT : World.setRow _ _ _ = wT
                    have b6 : Below uT.heap.size uT wT := by rw [← hwT]; exact below_setRow ((Below.refl _ _).alloc (Nat.le_refl _) _) (Nat.le_refl _) _
                    have ST := hid (show Blk wT uT.heap.size 30 (ar 64 v2) by rw [← hwT]; exact (Blk.new uT _ _).setRow_same _)
                    replace SX := hid (SX.out.below (h5.trans (b6.mono h5.size)) SX.out.lt)
                    replace SY := hid (SY.out.below (h5.trans (b6.mono h5.size)) SY.out.lt)
                    replace SZ := hid (SZ.out.below (h5.trans (b6.mono h5.size)) SZ.out.lt)
                    replace HV := hid (HV.out.trans ((h5.trans (b6.mono h5.size)).mono HV.out.size))
                    obtain ⟨gT, hgT⟩ : ∃ n, n = uT.heap.size := ⟨_, rfl⟩
                    rw [← hgT] at ST ⊢
                    clear hwT b6 h5 hgT
                    obtain ⟨wz, hwz⟩ : ∃ z, z = wT := ⟨_, rfl⟩
                    refine wp_region_fixed (C := fun w' => Below wT.heap.size wT w') 8 (Below.refl _ _) ?_
                    simp only [List.take_succ_cons, List.take_zero, List.drop_succ_cons, List.drop_zero]
                    apply kldA tSe
                    · rfl
                    · rfl
                    · exact fun w' hw' => (SX.out.below hw' SX.out.lt).head
                    simp only [Act.put, List.setIfInBounds_toArray, List.set_cons_succ, List.set_cons_zero]
                    apply kldA tSe
                    · rfl
                    · rfl
                    · exact fun w' hw' => (SY.out.below hw' SY.out.lt).head
                    simp only [Act.put, List.setIfInBounds_toArray, List.set_cons_succ, List.set_cons_zero]
                    apply kneU false uSe' gSe'
                    · rfl
                    · rfl
                    · rfl
                    · exact (by rw [eqA_yes fun _ _ => rfl]; rfl)
                    simp only [Act.put, List.setIfInBounds_toArray, List.set_cons_succ, List.set_cons_zero]
                    apply wpK_val
                    · rfl
                    · intro w' hw'
                      go_simp
                      first | exact rfl | exact ⟨rfl, hw'⟩
                    simp only [Act.put, List.setIfInBounds_toArray, List.set_cons_succ, List.set_cons_zero]
                    apply kldA tSe
                    · rfl
                    · rfl
                    · exact fun w' hw' => (SZ.out.below hw' SZ.out.lt).head
                    simp only [Act.put, List.setIfInBounds_toArray, List.set_cons_succ, List.set_cons_zero]
                    apply kldA tSe
                    · rfl
                    · rfl
                    · exact fun w' hw' => (ST.out.below hw' ST.out.lt).head
                    simp only [Act.put, List.setIfInBounds_toArray, List.set_cons_succ, List.set_cons_zero]
                    apply kneU false uSe' gSe'
                    · rfl
                    · rfl
                    · rfl
                    · exact (by rw [eqA_yes fun _ _ => rfl]; rfl)
                    simp only [Act.put, List.setIfInBounds_toArray, List.set_cons_succ, List.set_cons_zero]
                    apply wpK_val
                    · rfl
                    · intro w' hw'
                      go_simp
                      first | exact rfl | exact ⟨rfl, hw'⟩
                    simp only [Act.put, List.setIfInBounds_toArray, List.set_cons_succ, List.set_cons_zero]
                    intro wq hCq
                    have HVq := hid (HV.out.trans (hCq.mono HV.out.size))
                    clear hCq hwz SX SY SZ ST HV HV1 HV2 fr
                    go_wp2_with fail
                    go_roundw
                    case rel => exact ⟨j + 1, by go_num, by omega, HVq⟩
                    case measure => simp [intOf] <;> omega
                  · have t3 : decide ((j : Int) < 4) = false := by simp; omega
                    have ALj := hid (AL9.out.below hC HV.out)
                    clear AL9 RR9 RM1 RM2 OK1 OK2
                    go_wp2_with fail
                    refine (hC.power ALj.out.pp).mono ?_
                    rintro e wp ⟨rfl, ho⟩
                    obtain ⟨F5, al5, _, _, _⟩ := ALj.out.out (outS.ofQ ho)
                    have AL5 := hid al5
                    have HP5 := hid (show BuM.ahead (BuM.power b3) = BuM.power b3 from ahead_none fun s hs' => by
                      have hs2 : s ∈ b3.steps := hs'
                      rw [HBB.out.1] at hs2
                      have : s = crSt nn picks := by simpa using hs2
                      rw [this]
                      show (nn : Int) ≠ (b3.log.length : Int)
                      have := HBB.out.2.1
                      omega)
                    clear ho al5 ALj HV
                    go_wp2_with fail
                    refine (hC.cell AL5.out.pp (by show 200 + b3.steps.length + 2 ≤ _; rw [HBB.out.1]; show 200 + 1 + 2 ≤ _; omega)).mono ?_
                    rintro e wc ⟨rfl, ho⟩
                    rw [HP5.out]
                    have hce : (BuM.ceB (BuM.power b3)).e = 0 := rfl
                    rw [hce]
                    obtain ⟨cv, hcv⟩ : ∃ z, z = BuM.ceV (BuM.power b3) := ⟨_, rfl⟩
                    rw [← hcv]
                    obtain ⟨F6, al6, _, _, _⟩ := AL5.out.out (outS.ofQ ho)
                    have AL6 := hid al6
                    have HOF := hid (show (BuM.ceT (BuM.power b3)).off = false from by rw [(ceT_kept _).off, HP5.out]; rfl)
                    clear ho al6 hce hcv AL5 HP5
                    go_wp2_with fail
                    refine (hC.off AL6.out.pp).mono ?_
                    rintro e wo ⟨rfl, h6⟩
                    rw [HOF.out]
                    have B6 := hid (AL6.out.bel.trans (h6.mono AL6.out.bel.size))
                    clear h6 AL6
                    go_wp2_with fail
                    refine (awake_any hC wo).mono ?_
                    rintro e wx ⟨rfl, h7⟩
                    have B7 := hid (B6.out.trans (h7.mono B6.out.size))
                    clear h7 B6
                    go_wp2_with fail
                    go_ret
                    exact ⟨rfl, B7.out⟩
end BuP
end Go.Proofs.Ytablkaofaedpeaa
set_option maxRecDepth 100000
namespace Go.Proofs.Ytablkaofaedpeaa
open Go.ChangeShapes Go.WideShapes Go.ChangeAt Go.RowKit Go.Deep
theorem choose_lt {α : Type} [Inhabited α] {n : Nat} {P : Nat → α → Prop} (h : ∀ k, k < n → ∃ a, P k a) : ∃ f : Nat → α, ∀ k, k < n → P k (f k) :=
  ⟨fun k => if hk : k < n then (h k hk).choose else default, fun k hk => by simp only [hk, dif_pos]; exact (h k hk).choose_spec⟩
theorem u8_wf {a : Int} (h : (Lit.int .u8 a).wf = true) : ∃ n : Nat, a = n ∧ n < 256 := by
  simp [Lit.wf, IntKind.min, IntKind.max, IntKind.bits, IntKind.signed] at h
  exact ⟨a.toNat, by omega, by omega⟩
theorem cells_u8 : Try.prog.cellsOf 5 = 1 := by kernel_rfl
end Go.Proofs.Ytablkaofaedpeaa
set_option maxRecDepth 100000
namespace Go.Proofs.Ytablkaofaedpeaa
open Go.ChangeShapes Go.WideShapes Go.ChangeAt Go.RowKit Go.Deep
section
variable {H : Type} {enc : TypeId × Value → H} {w : World} {base : Nat} {spare : Nat → Bool} {held : Bool}
theorem trod_ar {T : TypeId} {n : Nat} (hT : Try.prog.underlying T = some (.array n 5)) (hc : Try.prog.cellsOf T = n) {fuel : Nat} {cs : List Value} {x : DataW H × List MemPlace} (h : DataW.trod enc Try.prog w base spare held fuel T cs = some x) : ∃ f : Nat → Nat, (∀ k, f k < 256) ∧ cs = (ar n f).toList := by
  obtain ⟨xs, m, rfl, rfl, hlen, hxl, hx⟩ := DataW.trod_array hT h
  rw [hc] at hlen
  have hk : ∀ k, k < n → ∃ n : Nat, n < 256 ∧ cs[k]? = some (.int .u8 n) := fun k hk => by
    have h1 := hx k hk
    rw [cells_u8, Nat.mul_one, List.getElem?_eq_getElem (by omega)] at h1
    obtain ⟨n, e1, e2, wf⟩ := DataW.trod_int Try.underlying5 h1
    obtain ⟨n, rfl, hn⟩ := u8_wf wf
    refine ⟨n, hn, ?_⟩
    have : ((cs.drop k).take 1)[0]? = some (.int .u8 n) := by rw [e1]; rfl
    rw [List.getElem?_take_of_lt (by omega), List.getElem?_drop] at this
    exact this
  obtain ⟨f, hf⟩ := choose_lt hk
  refine ⟨fun k => if k < n then f k else 0, fun k => ?_, ?_⟩
  · by_cases h : k < n
    · simp only [h, if_true]; exact (hf k h).1
    · simp [h]
  · apply List.ext_getElem?
    intro k
    have e : (ar n fun k => if k < n then f k else 0).toList[k]? = if k < n then some (.int .u8 ((if k < n then f k else 0 : Nat) : Int)) else none := by
      rw [Array.getElem?_toList]
      exact get_row k
    rw [e]
    by_cases h : k < n
    · rw [if_pos h, if_pos h]; exact (hf k h).2
    · rw [if_neg h, List.getElem?_eq_none (by omega)]
set_option maxRecDepth 100000 in
theorem open_ar {T : TypeId} {n : Nat} (hT : Try.prog.underlying T = some (.array n 5)) (hc : Try.prog.cellsOf T = n) {r : Reach} {b0 : Nat} {v : Value} {d : DataW H} {p : List MemPlace} (hv : Value.okWide Try.prog w r b0 T v) (h : DataW.Trod enc Try.prog w base spare held T v d p) :
    ∃ f : Nat → Nat, (∀ k, f k < 256) ∧ v = .agg (ar n f) := by
  have hv' : ∃ cs, v = .agg cs := by
    simp only [Value.okWide, hT] at hv
    obtain ⟨cs, h1, _⟩ := hv
    exact ⟨cs, h1⟩
  obtain ⟨cs, rfl⟩ := hv'
  obtain ⟨fuel, hf⟩ := h
  obtain ⟨f, h1, h2⟩ := trod_ar hT hc hf
  refine ⟨f, h1, ?_⟩
  have : cs = ar n f := by
    apply Array.ext'
    exact h2
  rw [this]
end
end Go.Proofs.Ytablkaofaedpeaa
set_option maxRecDepth 100000
namespace Go.Proofs.Ytablkaofaedpeaa
open Go.ChangeShapes Go.WideShapes Go.ChangeAt Go.RowKit Go.Deep
section
variable {H : Type} {enc : TypeId × Value → H} {w : World} {base : Nat} {spare : Nat → Bool} {held : Bool}
set_option maxRecDepth 100000 in
theorem open_byts {r : Reach} {b0 : Nat} {v : Value} {d : DataW H} {p : List MemPlace} (hv : Value.okWide Try.prog w r b0 65 v) (h : DataW.Trod enc Try.prog w base spare held 65 v d p) :
    ∃ (A : Option Addr) (l : List Nat) (n cap : Nat), v = .slice A n cap ∧ l.length = n ∧ n ≤ cap ∧ cap ≤ maxLen ∧ B256 l ∧ Byt w w.heap.size A l ∧ (A = none → n = 0 ∧ cap = 0) := by
  obtain ⟨A, n, cap, rfl⟩ := okWide_slice Try.underlying65 hv
  obtain ⟨fuel, hf⟩ := h
  rcases open_ints Try.underlying65 Try.underlying5 cells_u8 hf with ⟨hcs, _⟩ | ⟨a, len, cap', zs, hcs, _, hl, hm, hz, _, hcell, hwz⟩
  · simp [Value.cells] at hcs
    obtain ⟨rfl, rfl, rfl⟩ := hcs
    exact ⟨none, [], 0, 0, rfl, rfl, Nat.le_refl _, Nat.zero_le _, (fun x hx => by cases hx), Byt.none rfl, fun _ => ⟨rfl, rfl⟩⟩
  · simp [Value.cells] at hcs
    obtain ⟨rfl, rfl, rfl⟩ := hcs
    have hnz : n ≤ zs.length := by rw [hz]; split <;> omega
    have hlen : ((zs.take n).map Int.toNat).length = n := by rw [List.length_map, List.length_take]; omega
    have hat : ∀ i, i < n → ∃ k : Nat, zs.getD i 0 = k ∧ k < 256 ∧ ((zs.take n).map Int.toNat).getD i 0 = k := fun i hi => by
      have hi' : i < zs.length := by omega
      have hg : zs.getD i 0 = zs[i] := by rw [List.getD_eq_getElem?_getD, List.getElem?_eq_getElem hi']; rfl
      obtain ⟨k, hk, hk2⟩ := u8_wf (hwz zs[i] (List.getElem_mem hi'))
      refine ⟨k, hg.trans hk, hk2, ?_⟩
      rw [List.getD_eq_getElem?_getD, List.getElem?_map, List.getElem?_take_of_lt hi, List.getElem?_eq_getElem hi', hk]
      rfl
    refine ⟨some a, (zs.take n).map Int.toNat, n, cap, rfl, hlen, hl, hm, fun x hx => ?_, fun hn => ?_, fun h => by cases h⟩
    · obtain ⟨i, hi⟩ := List.getElem?_of_mem hx
      have hin : i < n := by have := (List.getElem?_eq_some_iff.1 hi).1; omega
      obtain ⟨k, _, hk, he⟩ := hat i hin
      rw [List.getD_eq_getElem?_getD, hi] at he
      have : x = k := he
      omega
    · rw [hlen] at hn
      have h0 := hcell 0 (by omega)
      have hsp : a.spot = none := by
        simp only [Addr.add, if_true] at h0
        unfold World.cell? at h0
        split at h0
        · cases hs : a.spot with
          | none => rfl
          | some s => simp [hs] at h0
        · cases h0
      have hblk : a.block < w.heap.size := by
        have := World.block_lt_of_cell? w _ h0
        simpa [Addr.add] using this
      obtain ⟨b, o, sp⟩ := a
      subst hsp
      refine ⟨b, o, rfl, hblk, fun i hi => ?_⟩
      rw [hlen] at hi
      obtain ⟨k, h1, _, h2⟩ := hat i hi
      have h3 := hcell i (by omega)
      rw [Addr.add_mid, h1] at h3
      rw [h3, h2]
end
end Go.Proofs.Ytablkaofaedpeaa
set_option maxRecDepth 100000
namespace Go.Proofs.Ytablkaofaedpeaa
open Go.ChangeShapes Go.WideShapes Go.ChangeAt Go.RowKit Go.Deep
/-- A slice of slices of bytes that came in; a part that is nil has no bytes and no room. -/
def PrtsN (w : World) (B : Nat) (A : Option Addr) (ls : List (List Nat)) : Prop :=
  0 < ls.length → ∃ b o, A = some ⟨b, o, none⟩ ∧ b < B ∧ ∀ i, i < ls.length → ∃ A' c, w.cell? ⟨b, o + i, none⟩ = some (.slice A' (ls.getD i []).length c) ∧ (ls.getD i []).length ≤ c ∧ c ≤ maxLen ∧ Byt w B A' (ls.getD i []) ∧ (A' = none → (ls.getD i []).length = 0 ∧ c = 0)
theorem PrtsN.below {B B' : Nat} {w w' : World} {A : Option Addr} {ls : List (List Nat)} (h : PrtsN w B A ls) (hb : Below B' w w') (hB : B ≤ B') : PrtsN w' B A ls := fun hn => by
  obtain ⟨b, o, rfl, hl, hr⟩ := h hn
  refine ⟨b, o, rfl, hl, fun i hi => ?_⟩
  obtain ⟨A', c, h1, h2, h3, h4, h5⟩ := hr i hi
  exact ⟨A', c, (hb.cell (p := ⟨b, o + i, none⟩) (by show b < B'; omega)).trans h1, h2, h3, h4.below hb hB, h5⟩
theorem PrtsN.more {w : World} {B B' : Nat} {A : Option Addr} {ls : List (List Nat)} (h : PrtsN w B A ls) (hB : B ≤ B') : PrtsN w B' A ls := fun hn => by
  obtain ⟨b, o, rfl, hl, hr⟩ := h hn
  refine ⟨b, o, rfl, by omega, fun i hi => ?_⟩
  obtain ⟨A', c, h1, h2, h3, h4, h5⟩ := hr i hi
  exact ⟨A', c, h1, h2, h3, h4.more hB, h5⟩
theorem cells_sl : Try.prog.cellsOf 65 = 1 := by kernel_rfl
section
variable {H : Type} {enc : TypeId × Value → H} {w : World} {base : Nat} {spare : Nat → Bool} {held : Bool}
theorem trod_byts {fuel : Nat} {cs : List Value} {x : DataW H × List MemPlace} (h : DataW.trod enc Try.prog w base spare held fuel 65 cs = some x) :
    ∃ (A : Option Addr) (l : List Nat) (cap : Nat), cs = [.slice A l.length cap] ∧ l.length ≤ cap ∧ cap ≤ maxLen ∧ B256 l ∧ Byt w w.heap.size A l ∧ (A = none → l.length = 0 ∧ cap = 0) := by
  rcases open_ints Try.underlying65 Try.underlying5 cells_u8 h with ⟨hcs, _⟩ | ⟨a, n, cap, zs, hcs, _, hl, hm, hz, _, hcell, hwz⟩
  · subst hcs
    exact ⟨none, [], 0, rfl, Nat.le_refl _, Nat.zero_le _, (fun x hx => by cases hx), Byt.none rfl, fun _ => ⟨rfl, rfl⟩⟩
  · subst hcs
    have hnz : n ≤ zs.length := by rw [hz]; split <;> omega
    have hlen : ((zs.take n).map Int.toNat).length = n := by rw [List.length_map, List.length_take]; omega
    have hat : ∀ i, i < n → ∃ k : Nat, zs.getD i 0 = k ∧ k < 256 ∧ ((zs.take n).map Int.toNat).getD i 0 = k := fun i hi => by
      have hi' : i < zs.length := by omega
      have hg : zs.getD i 0 = zs[i] := by rw [List.getD_eq_getElem?_getD, List.getElem?_eq_getElem hi']; rfl
      obtain ⟨k, hk, hk2⟩ := u8_wf (hwz zs[i] (List.getElem_mem hi'))
      refine ⟨k, hg.trans hk, hk2, ?_⟩
      rw [List.getD_eq_getElem?_getD, List.getElem?_map, List.getElem?_take_of_lt hi, List.getElem?_eq_getElem hi', hk]
      rfl
    refine ⟨some a, (zs.take n).map Int.toNat, cap, by rw [hlen], by rw [hlen]; exact hl, hm, fun x hx => ?_, fun hn => ?_, fun h => by cases h⟩
    · obtain ⟨i, hi⟩ := List.getElem?_of_mem hx
      have hin : i < n := by have := (List.getElem?_eq_some_iff.1 hi).1; omega
      obtain ⟨k, _, hk, he⟩ := hat i hin
      rw [List.getD_eq_getElem?_getD, hi] at he
      have : x = k := he
      omega
    · rw [hlen] at hn
      have h0 := hcell 0 (by omega)
      have hsp : a.spot = none := by
        simp only [Addr.add, if_true] at h0
        unfold World.cell? at h0
        split at h0
        · cases hs : a.spot with
          | none => rfl
          | some s => simp [hs] at h0
        · cases h0
      have hblk : a.block < w.heap.size := by
        have := World.block_lt_of_cell? w _ h0
        simpa [Addr.add] using this
      obtain ⟨b, o, sp⟩ := a
      subst hsp
      refine ⟨b, o, rfl, hblk, fun i hi => ?_⟩
      rw [hlen] at hi
      obtain ⟨k, h1, _, h2⟩ := hat i hi
      have h3 := hcell i (by omega)
      rw [Addr.add_mid, h1] at h3
      rw [h3, h2]
end
end Go.Proofs.Ytablkaofaedpeaa
