/-
  The program's calls of members that New did not make: of none, and of a block of zeros.
  The program's member keeps MemC.
  The law MemberKnown: the chapter's examples, of one member; members that are none.
-/
import Derived.Test.YteglhalninlapaaMrg4
set_option linter.unusedVariables false
set_option linter.unusedSimpArgs false
set_option maxRecDepth 100000
namespace Go.Proofs.Yteglhalninlapaa
open Go.ChangeShapes Go.WideShapes Go.ChangeAt Go.RowKit
attribute [local go_sem] Gives GivesE
namespace MbO
open MbM MbP
theorem madeN (w : World) : Calls Try.prog 42 #[.pointer none] w fun e w' => e = .returned (.bool false) ∧ w = w' := by
  go_enter Try.func42, Try.ntmps42
  go_wp2_with fail
  go_ret
  exact ⟨rfl, rfl⟩
theorem findN (i : Int) (w : World) : Calls Try.prog 49 #[.pointer none, .int .i64 i] w fun e w' => e = .returned (.int .i64 1) ∧ w = w' := by
  go_enter Try.func49, Try.ntmps49
  go_wp2_with fail
  refine (madeN w).mono ?_
  rintro e w' ⟨rfl, rfl⟩
  go_wp2_with fail
  go_ret
  exact ⟨rfl, rfl⟩
theorem reachN (i : Int) (w : World) : Calls Try.prog 45 #[.pointer none, .int .i64 i] w fun e w' => e = .returned (.int .i64 1) ∧ w = w' := by
  go_enter Try.func45, Try.ntmps45
  go_wp2_with fail
  refine (findN i w).mono ?_
  rintro e w' ⟨rfl, rfl⟩
  go_wp2_with fail
  go_ret
  exact ⟨rfl, rfl⟩
theorem madeZ (g : Nat) (w : World) (h : w.cell? ⟨g, 0, none⟩ = some (.int .i64 0)) : Calls Try.prog 42 #[.pointer (some ⟨g, 0, none⟩)] w fun e w' => e = .returned (.bool false) ∧ w = w' := by
  go_enter Try.func42, Try.ntmps42
  go_wp2_with fail
  go_ret
  exact ⟨rfl, rfl⟩
theorem findZ (g : Nat) (i : Int) (w : World) (h : w.cell? ⟨g, 0, none⟩ = some (.int .i64 0)) : Calls Try.prog 49 #[.pointer (some ⟨g, 0, none⟩), .int .i64 i] w fun e w' => e = .returned (.int .i64 1) ∧ w = w' := by
  go_enter Try.func49, Try.ntmps49
  go_wp2_with fail
  refine (madeZ g w h).mono ?_
  rintro e w' ⟨rfl, rfl⟩
  go_wp2_with fail
  go_ret
  exact ⟨rfl, rfl⟩
theorem reachZ (g : Nat) (i : Int) (w : World) (h : w.cell? ⟨g, 0, none⟩ = some (.int .i64 0)) : Calls Try.prog 45 #[.pointer (some ⟨g, 0, none⟩), .int .i64 i] w fun e w' => e = .returned (.int .i64 1) ∧ w = w' := by
  go_enter Try.func45, Try.ntmps45
  go_wp2_with fail
  refine (findZ g i w h).mono ?_
  rintro e w' ⟨rfl, rfl⟩
  go_wp2_with fail
  go_ret
  exact ⟨rfl, rfl⟩
theorem readN (i : Int) (w : World) : Calls Try.prog 26 #[.pointer none, .int .i64 i] w fun e w' => e = .returned (.tuple #[.agg (ar 64 zero), .int .i64 1]) ∧ Below w.heap.size w w' := by
  go_enter Try.func26, Try.ntmps26
  go_upto_region 1 with (with_reducible apply alA tSe)
  generalize hw1 : World.alloc w _ = w1
  have b1 := hid (show Blk w1 w.heap.size 32 (ar 64 fun _ => 0) by rw [← hw1]; exact Blk.new _ _ _)
  have BEL := hid (show Below w.heap.size w w1 by rw [← hw1]; exact (Below.refl _ _).alloc (Nat.le_refl _) _)
  clear hw1
  have bz := b1.out.setRow_same (ar 64 fun _ => 0)
  have bb := hid (below_setRow BEL.out (Nat.le_refl w.heap.size) (ar 64 fun _ => 0))
  go_wp2_with fail
  refine (reachN i w1).mono ?_
  rintro e w' ⟨rfl, rfl⟩
  go_wp2_with (first | ((with_reducible apply bldZr (n := 64)); kernel_rfl) | ((with_reducible apply stA tSe); rfl; rfl; exact b1.out))
  apply retA tSe Try.results26
  · rfl
  · rfl
  · rfl
  · exact bz
  · exact ⟨rfl, bb.out⟩
theorem lookZ (g : Nat) (i : Int) (w : World) (h : w.cell? ⟨g, 0, none⟩ = some (.int .i64 0)) : Calls Try.prog 29 #[.pointer (some ⟨g, 0, none⟩), .int .i64 i] w fun e w' => e = .returned (.tuple #[.agg (ar 64 zero), .int .i64 1]) ∧ Below w.heap.size w w' := by
  go_enter Try.func29, Try.ntmps29
  go_upto_region 1 with (with_reducible apply alA tSe)
  generalize hw1 : World.alloc w _ = w1
  have b1 := hid (show Blk w1 w.heap.size 32 (ar 64 fun _ => 0) by rw [← hw1]; exact Blk.new _ _ _)
  have BEL := hid (show Below w.heap.size w w1 by rw [← hw1]; exact (Below.refl _ _).alloc (Nat.le_refl _) _)
  have h1 : w1.cell? ⟨g, 0, none⟩ = some (.int .i64 0) := (BEL.out.cell (p := ⟨g, 0, none⟩) (World.block_lt_of_cell? w ⟨g, 0, none⟩ h)).trans h
  clear hw1 h
  have bz := b1.out.setRow_same (ar 64 fun _ => 0)
  have bb := hid (below_setRow BEL.out (Nat.le_refl w.heap.size) (ar 64 fun _ => 0))
  go_wp2_with fail
  refine (findZ g i w1 h1).mono ?_
  rintro e w' ⟨rfl, rfl⟩
  go_wp2_with (first | ((with_reducible apply bldZr (n := 64)); kernel_rfl) | ((with_reducible apply stA tSe); rfl; rfl; exact b1.out))
  apply retA tSe Try.results29
  · rfl
  · rfl
  · rfl
  · exact bz
  · exact ⟨rfl, bb.out⟩
theorem markZ (g : Nat) (w : World) (h : w.cell? ⟨g, 0, none⟩ = some (.int .i64 0)) : Calls Try.prog 20 #[.pointer (some ⟨g, 0, none⟩)] w fun e w' => e = .returned (.tuple #[.int .i64 0, .int .i64 1]) ∧ Below w.heap.size w w' := by
  go_enter Try.func20, Try.ntmps20
  go_wp2_with fail
  refine (madeZ g w h).mono ?_
  rintro e w' ⟨rfl, rfl⟩
  go_wp2_with fail
  go_ret2
  exact ⟨rfl, Below.refl _ _⟩
theorem writeN (i : Int) (x : Nat → Nat) (w : World) : Calls Try.prog 16 #[.pointer none, .int .i64 i, .agg (ar 64 x)] w fun e w' => e = .returned (.int .i64 1) ∧ Below w.heap.size w w' := by
  go_enter Try.func16, Try.ntmps16
  go_upto_region 1 with fail
  generalize hw1 : World.alloc w _ = w1
  have BEL := hid (show Below w.heap.size w w1 by rw [← hw1]; exact (Below.refl _ _).alloc (Nat.le_refl _) _)
  clear hw1
  go_wp2_with fail
  refine (reachN i w1).mono ?_
  rintro e w' ⟨rfl, rfl⟩
  go_wp2_with fail
  go_ret
  exact ⟨rfl, BEL.out⟩
theorem flushZ (g : Nat) (w : World) (h : w.cell? ⟨g, 0, none⟩ = some (.int .i64 0)) : Calls Try.prog 27 #[.pointer (some ⟨g, 0, none⟩)] w fun e w' => e = .returned (.int .i64 1) ∧ Below w.heap.size w w' := by
  go_enter Try.func27, Try.ntmps27
  go_wp2_with fail
  refine (reachZ g 0 w h).mono ?_
  rintro e w' ⟨rfl, rfl⟩
  go_wp2_with fail
  go_ret
  exact ⟨rfl, Below.refl _ _⟩
theorem crashN (w : World) : Calls Try.prog 18 #[.pointer none, .slice none 0 0] w fun e w' => e = .returned (.int .i64 1) ∧ Below w.heap.size w w' := by
  go_enter Try.func18, Try.ntmps18
  go_upto_region 1 with fail
  generalize hw1 : World.alloc w _ = w1
  have BEL := hid (show Below w.heap.size w w1 by rw [← hw1]; exact (Below.refl _ _).alloc (Nat.le_refl _) _)
  clear hw1
  go_wp2_with fail
  refine (madeN w1).mono ?_
  rintro e w' ⟨rfl, rfl⟩
  go_wp2_with fail
  go_ret
  exact ⟨rfl, BEL.out⟩
theorem setZ (g : Nat) (i : Int) (x : Nat → Nat) (w : World) (h : w.cell? ⟨g, 0, none⟩ = some (.int .i64 0)) : Calls Try.prog 21 #[.pointer (some ⟨g, 0, none⟩), .int .i64 i, .agg (ar 64 x)] w fun e w' => e = .returned (.int .i64 1) ∧ Below w.heap.size w w' := by
  go_enter Try.func21, Try.ntmps21
  go_upto_region 1 with fail
  generalize hw1 : World.alloc (World.alloc w _) _ = w1
  have BEL := hid (show Below w.heap.size w w1 by rw [← hw1]; exact ((Below.refl _ _).alloc (Nat.le_refl _) _).alloc (by simp) _)
  have b0 := hid (show Blk w1 w.heap.size 3 #[.int .i64 i] by rw [← hw1]; exact (Blk.new _ _ _).alloc _)
  have h1 : w1.cell? ⟨g, 0, none⟩ = some (.int .i64 0) := (BEL.out.cell (p := ⟨g, 0, none⟩) (World.block_lt_of_cell? w ⟨g, 0, none⟩ h)).trans h
  clear hw1 h
  have pi : w1.cell? ⟨w.heap.size, 0, none⟩ = some (.int .i64 i) := b0.out.cell 0
  go_wp2_with fail
  refine (findZ g i w1 h1).mono ?_
  rintro e w' ⟨rfl, rfl⟩
  go_wp2_with fail
  go_ret
  exact ⟨rfl, BEL.out⟩
theorem backN (i : Int) (w : World) : Calls Try.prog 23 #[.pointer none, .int .i64 i] w fun e w' => e = .returned (.int .i64 1) ∧ Below w.heap.size w w' := by
  go_enter Try.func23, Try.ntmps23
  go_wp2_with fail
  refine (madeN w).mono ?_
  rintro e w' ⟨rfl, rfl⟩
  go_wp2_with fail
  go_ret
  exact ⟨rfl, Below.refl _ _⟩
theorem failZ (g : Nat) (w : World) (h : w.cell? ⟨g, 0, none⟩ = some (.int .i64 0)) : Calls Try.prog 25 #[.pointer (some ⟨g, 0, none⟩), .bool true] w fun e w' => e = .returned (.int .i64 1) ∧ Below w.heap.size w w' := by
  go_enter Try.func25, Try.ntmps25
  go_wp2_with fail
  refine (madeZ g w h).mono ?_
  rintro e w' ⟨rfl, rfl⟩
  go_wp2_with fail
  go_ret
  exact ⟨rfl, Below.refl _ _⟩
theorem touchedN (w : World) : Calls Try.prog 22 #[.pointer none] w fun e w' => e = .returned (.bool false) ∧ Below w.heap.size w w' := by
  go_enter Try.func22, Try.ntmps22
  go_wp2_with fail
  refine (madeN w).mono ?_
  rintro e w' ⟨rfl, rfl⟩
  go_wp2_with fail
  go_ret
  exact ⟨rfl, Below.refl _ _⟩
theorem lenN (w : World) : Calls Try.prog 30 #[.pointer none] w fun e w' => e = .returned (.int .i64 0) ∧ Below w.heap.size w w' := by
  go_enter Try.func30, Try.ntmps30
  go_wp2_with fail
  refine (madeN w).mono ?_
  rintro e w' ⟨rfl, rfl⟩
  go_wp2_with fail
  go_ret
  exact ⟨rfl, Below.refl _ _⟩
theorem unflushedZ (g : Nat) (w : World) (h : w.cell? ⟨g, 0, none⟩ = some (.int .i64 0)) : Calls Try.prog 24 #[.pointer (some ⟨g, 0, none⟩)] w fun e w' => e = .returned (.int .i64 0) ∧ Below w.heap.size w w' := by
  go_enter Try.func24, Try.ntmps24
  go_wp2_with fail
  refine (madeZ g w h).mono ?_
  rintro e w' ⟨rfl, rfl⟩
  go_wp2_with fail
  go_ret
  exact ⟨rfl, Below.refl _ _⟩
theorem copyN (w : World) : Calls Try.prog 14 #[.pointer none] w fun e w' => e = .returned (.pointer none) ∧ Below w.heap.size w w' := by
  go_enter Try.func14, Try.ntmps14
  go_wp2_with fail
  refine (madeN w).mono ?_
  rintro e w' ⟨rfl, rfl⟩
  go_wp2_with fail
  go_ret
  exact ⟨rfl, Below.refl _ _⟩
theorem built_mz : Try.prog.built 58 [] = some zMb7 := by kernel_rfl
section
variable {ops : Array Oper} {Q : Exit → Act → World → Prop} {a : Act} {w : World} {rest : List Oper} {dst : Option Tmp} {ty : TypeId} {pos : String} {after : Array Edge}
theorem bldMz (hk : wpList Try.prog ops Q rest (a.put dst (.agg zMb7)) w) : wpList Try.prog ops Q (⟨dst, .build 58 #[], ty, pos, after, none⟩ :: rest) a w := by
  have hr : (Instr.build 58 #[]).run Try.prog w = .ok (.agg zMb7) w := run_build w _ _ _ built_mz
  refine wpList_plain rfl fun K hK => ?_
  unfold Oper.wp execOp
  simp [hr, Result.andThen]
  exact hK _ _ hk
end
end MbO
end Go.Proofs.Yteglhalninlapaa
set_option maxRecDepth 100000
namespace Go.Proofs.Yteglhalninlapaa
open Go.ChangeShapes Go.WideShapes Go.ChangeAt Go.RowKit
attribute [local go_sem] Gives GivesE
namespace MbO
open MbM MbP
theorem app_flt {i : Int} {j : Int} (hj : j ≠ i) : ∀ (l : List Pt) (d1 d2 : Img), d1 j = d2 j → app d1 (l.filter fun p => decide (p.i ≠ i)) j = app d2 l j
  | [], d1, d2, h => h
  | p :: l, d1, d2, h => by
    by_cases e : p.i = i
    · rw [List.filter_cons_of_neg (by simp [e]), app_cons]
      refine app_flt hj l d1 _ ?_
      unfold upd
      rw [if_neg fun x => hj (x.trans e)]
      exact h
    · rw [List.filter_cons_of_pos (by simp [e]), app_cons, app_cons]
      refine app_flt hj l _ _ ?_
      unfold upd
      split
      · rfl
      · exact h
theorem seen_set (st : St) (i : Int) (x : Nat → Nat) : MbM.seen (MbM.set st i x) = upd (MbM.seen st) ⟨i, x⟩ := by
  funext j
  show app (upd st.dur ⟨i, x⟩) (st.log.filter fun p => decide (p.i ≠ i)) j = upd (app st.dur st.log) ⟨i, x⟩ j
  by_cases e : j = i
  · subst e
    rw [app_out fun p hp => by simpa using (List.mem_filter.1 hp).2]
    unfold upd
    rw [if_pos rfl, if_pos rfl]
  · rw [app_flt e st.log (upd st.dur ⟨i, x⟩) st.dur (by unfold upd; rw [if_neg e])]
    conv => rhs; unfold upd
    rw [if_neg e]
theorem seen_write (st : St) (i : Int) (x : Nat → Nat) : MbM.seen (MbM.write st i x) = upd (MbM.seen st) ⟨i, x⟩ := app_snoc _ _ _
section
variable {w w' : World} {g : Nat} {M I : Nat → Prop} {k : Nat} {st : St}
theorem rep_mono {k' : Nat} (h : Rep w g M I k st) (hk : k ≤ k') : Rep w g M I k' st := by
  obtain ⟨rs, rd, vl, vm, ms, H, ⟨hl, hm, hn⟩, rfl, rfl⟩ := h
  exact ⟨rs, rd, vl, vm, ms, H, ⟨Nat.le_trans hl hk, hm, hn⟩, rfl, rfl⟩
theorem same_out (h : Rep w g M I k st) (hb : Below w.heap.size w w') : outP Rep w g M I (k + 1) st w' := Rep.same (rep_mono h (by omega)) hb
theorem write_ok (h : Rep w g M I k st) (hk : k ≤ 1000) (i : Int) (x : Nat → Nat) : Calls Try.prog 16 #[at' g, .int .i64 i, .agg (ar 64 x)] w fun e w' => e = .returned (.int .i64 (rdE st i)) ∧ outP Rep w g M I (k + 1) (wrT st i x) w' := by
  have h0 := h
  obtain ⟨rs, rd, vl, vm, ms, H, ⟨hl, hm, hn⟩, rfl, rfl⟩ := h
  by_cases hq : st.may i = true
  · by_cases hf : st.fails = true
    · have e1 : rdE st i = 10 := by unfold rdE; rw [if_pos hq, if_pos hf]
      have e2 : wrT st i x = st := by unfold wrT; rw [if_pos hq, if_pos hf]
      rw [e1, e2]
      refine (write2_bad H i true hq x (.inr hf)).mono ?_
      rintro e w2 ⟨rfl, hb⟩
      rw [hf]
      exact ⟨rfl, same_out h0 hb⟩
    · have hf' : st.fails = false := by simpa using hf
      have e1 : rdE st i = 0 := by unfold rdE; rw [if_pos hq, if_neg hf]
      have e2 : wrT st i x = MbM.write st i x := by unfold wrT; rw [if_pos hq, if_neg hf]
      rw [e1, e2]
      rw [hf'] at H
      refine (write2_any H i hq x (by omega)).mono ?_
      rintro e w2 ⟨rfl, vl', H2, hb, ht⟩
      refine ⟨rfl, Rep.out (st' := MbM.write st i x) (rs' := rs) (rd' := rd) (vl' := vl') (vm' := vm) (ms' := ms) (by rw [seen_write]; rw [← hf'] at H2; exact H2) ⟨?_, hm, hn⟩ (fun b hbb => ?_) (fun b e => .inl e) ht⟩
      · show (st.log ++ [_]).length ≤ k + 1
        rw [List.length_append]
        simp
        exact hl
      · rcases hbb with e | e | e | e | e
        · exact .inl (.inl e)
        · exact .inl (.inr (.inl e))
        · exact .inl (.inr (.inr (.inl e)))
        · exact (hb b e).imp (fun e => .inr (.inr (.inr (.inl e)))) id
        · exact .inl (.inr (.inr (.inr (.inr e))))
  · have hq' : st.may i = false := by simpa using hq
    have e1 : rdE st i = 2 := by unfold rdE; rw [if_neg hq]
    have e2 : wrT st i x = st := by unfold wrT; rw [if_neg hq]
    rw [e1, e2]
    refine (write2_bad H i false hq' x (.inl rfl)).mono ?_
    rintro e w2 ⟨rfl, hb⟩
    exact ⟨rfl, same_out h0 hb⟩
theorem three_set {rs rd : Nat} {vl vm : Value} : ∀ b, (b = g ∨ b = rs ∨ b = rd) → mSet g rs rd vl vm b := fun _ e => e.imp id fun e => e.imp id fun e => .inl e
theorem flush_ok (h : Rep w g M I k st) (hk : k ≤ 1000) : Calls Try.prog 27 #[at' g] w fun e w' => e = .returned (.int .i64 (MbM.flE st)) ∧ outP Rep w g M I (k + 1) (flT st) w' := by
  have h0 := h
  obtain ⟨rs, rd, vl, vm, ms, H, ⟨hl, hm, hn⟩, rfl, rfl⟩ := h
  refine (flush2_any H (by omega)).mono ?_
  rintro e w2 (⟨hf, rfl, rfl⟩ | ⟨hf, E, rfl, rfl, H2, ht⟩)
  · rw [show MbM.flE st = 10 by unfold MbM.flE; rw [if_pos hf], show flT st = st by unfold flT; rw [if_pos hf]]
    exact ⟨rfl, same_out h0 (Below.refl _ _)⟩
  · rw [show MbM.flE st = 0 by unfold MbM.flE; rw [if_neg (by simp [hf])], show flT st = MbM.flush st by unfold flT; rw [if_neg (by simp [hf])]]
    have hs : app (MbM.seen st) (st.log.map fun p => ⟨p.i, app st.dur st.log p.i⟩) = app st.dur st.log := sem_settle fun p hp => hp
    rw [hs] at H2
    refine ⟨rfl, Rep.out (st' := MbM.flush st) (rs' := rs) (rd' := rd) (vl' := .slice none 0 0) (vm' := vm) (ms' := ms) H2 ⟨Nat.zero_le _, hm, hn⟩ (fun b hb => .inl ?_) (fun b e => .inl e) (ht.mono three_set)⟩
    rcases hb with e | e | e | e | e
    · exact .inl e
    · exact .inr (.inl e)
    · exact .inr (.inr (.inl e))
    · cases e
    · exact .inr (.inr (.inr (.inr e)))
theorem crash_ok (h : Rep w g M I k st) (hk : k ≤ 1000) (P : Option Addr) (picks : List Nat) (pn pc : Nat) (hp : Arg w P picks pn pc) (hne : ∀ b o, 0 < picks.length → P = some ⟨b, o, none⟩ → ¬ (M b ∨ I b)) :
    Calls Try.prog 18 #[at' g, .slice P pn pc] w fun e w' => e = .returned (.int .i64 0) ∧ outP Rep w g M I (k + 1) (MbM.crash st picks) w' := by
  obtain ⟨rs, rd, vl, vm, ms, H, ⟨hl, hm, hn⟩, rfl, rfl⟩ := h
  refine (crash2_any H (by omega) P picks pn pc hp fun b o h1 h2 e => hne b o h1 h2 (.inl (.inr (.inr (.inl e))))).mono ?_
  rintro e w2 ⟨E, rfl, rfl, H2, ht⟩
  have hs : app (MbM.seen st) (st.log.map fun p => ⟨p.i, app st.dur (kept st.log picks) p.i⟩) = app st.dur (kept st.log picks) := sem_settle fun p hp => kept_mem hp
  rw [hs] at H2
  refine ⟨rfl, Rep.out (st' := MbM.crash st picks) (rs' := rs) (rd' := rd) (vl' := .slice none 0 0) (vm' := vm) (ms' := ms) H2 ⟨Nat.zero_le _, hm, hn⟩ (fun b hb => .inl ?_) (fun b e => .inl e) (ht.mono three_set)⟩
  rcases hb with e | e | e | e | e
  · exact .inl e
  · exact .inr (.inl e)
  · exact .inr (.inr (.inl e))
  · cases e
  · exact .inr (.inr (.inr (.inr e)))
theorem set_ok (h : Rep w g M I k st) (hk : k ≤ 1000) (i : Int) (x : Nat → Nat) : Calls Try.prog 21 #[at' g, .int .i64 i, .agg (ar 64 x)] w fun e w' => e = .returned (.int .i64 (lkE st i)) ∧ outP Rep w g M I (k + 1) (seT st i x) w' := by
  have h0 := h
  obtain ⟨rs, rd, vl, vm, ms, H, ⟨hl, hm, hn⟩, rfl, rfl⟩ := h
  by_cases hq : st.may i = true
  · rw [show lkE st i = 0 by unfold lkE; rw [if_pos hq], show seT st i x = MbM.set st i x by unfold seT; rw [if_pos hq]]
    refine (set2_any H i hq x (by omega)).mono ?_
    rintro e w2 ⟨rfl, vl', H2, hb, ht⟩
    refine ⟨rfl, Rep.out (st' := MbM.set st i x) (rs' := rs) (rd' := rd) (vl' := vl') (vm' := vm) (ms' := ms) (by rw [seen_set]; exact H2) ⟨?_, hm, hn⟩ (fun b hbb => .inl ?_) (fun b e => .inl e) ht⟩
    · exact Nat.le_trans (List.length_filter_le _ _) (by omega)
    · rcases hbb with e | e | e | e | e
      · exact .inl e
      · exact .inr (.inl e)
      · exact .inr (.inr (.inl e))
      · exact .inr (.inr (.inr (.inl (by rw [← hb]; exact e))))
      · exact .inr (.inr (.inr (.inr e)))
  · have hq' : st.may i = false := by simpa using hq
    rw [show lkE st i = 2 by unfold lkE; rw [if_neg hq], show seT st i x = st by unfold seT; rw [if_neg hq]]
    refine (set2_bad H i hq' x).mono ?_
    rintro e w2 ⟨rfl, hb⟩
    exact ⟨rfl, same_out h0 hb⟩
theorem mark_ok (h : Rep w g M I k st) : Calls Try.prog 20 #[at' g] w fun e w' => e = .returned (.tuple #[.int .i64 (mkN st), .int .i64 (mkE st)]) ∧ outP Rep w g M I (k + 1) (mkT st) w' := by
  have h0 := h
  obtain ⟨rs, rd, vl, vm, ms, H, ⟨hl, hm, hn⟩, rfl, rfl⟩ := h
  by_cases hf : 64 ≤ st.marks.length
  · rw [show mkN st = 0 by unfold mkN; rw [if_pos hf], show mkE st = 7 by unfold mkE; rw [if_pos hf], show mkT st = st by unfold mkT; rw [if_pos hf]]
    refine (mark2_full H (by omega)).mono ?_
    rintro e w2 ⟨rfl, rfl⟩
    exact ⟨rfl, same_out h0 (Below.refl _ _)⟩
  · rw [show mkN st = st.marks.length by unfold mkN; rw [if_neg hf], show mkE st = 0 by unfold mkE; rw [if_neg hf], show mkT st = MbM.mark st by unfold mkT; rw [if_neg hf]]
    refine (mark2_any H (by omega)).mono ?_
    rintro e w2 ⟨rfl, vm', r, H2, hb, hr, ht⟩
    refine ⟨rfl, Rep.out (st' := MbM.mark st) (rs' := rs) (rd' := rd) (vl' := vl) (vm' := vm') (ms' := ms ++ [r]) H2 ⟨?_, ?_, hn⟩ (fun b hbb => ?_) (fun b e => ?_) ht⟩
    · exact Nat.le_trans hl (by omega)
    · show (st.marks ++ [_]).length ≤ 64
      rw [List.length_append, List.length_cons, List.length_nil]
      omega
    · rcases hbb with e | e | e | e | e
      · exact .inl (.inl e)
      · exact .inl (.inr (.inl e))
      · exact .inl (.inr (.inr (.inl e)))
      · exact .inl (.inr (.inr (.inr (.inl e))))
      · exact (hb b e).imp (fun e => .inr (.inr (.inr (.inr e)))) id
    · rcases List.mem_append.1 e with e | e
      · exact .inl e
      · rw [List.mem_singleton] at e
        subst e
        exact .inr hr
theorem back_ok (h : Rep w g M I k st) (n : Int) : Calls Try.prog 23 #[at' g, .int .i64 n] w fun e w' => e = .returned (.int .i64 (bkE st n)) ∧ outP Rep w g M I (k + 1) (bkT st n) w' := by
  have h0 := h
  obtain ⟨rs, rd, vl, vm, ms, H, ⟨hl, hm, hn⟩, rfl, rfl⟩ := h
  by_cases hb : n < 0 ∨ (st.marks.length : Int) ≤ n
  · rw [show bkE st n = 2 by unfold bkE; rw [if_pos hb], show bkT st n = st by unfold bkT; rw [if_pos hb]]
    refine (back2_bad H n hb).mono ?_
    rintro e w2 ⟨rfl, rfl⟩
    exact ⟨rfl, same_out h0 (Below.refl _ _)⟩
  · rw [show bkE st n = 0 by unfold bkE; rw [if_neg hb], show bkT st n = MbM.back st n.toNat by unfold bkT; rw [if_neg hb]]
    obtain ⟨j, rfl⟩ : ∃ j : Nat, n = j := ⟨n.toNat, by omega⟩
    rw [Int.toNat_natCast]
    have hj : j < st.marks.length := by omega
    have hF : st.marks[j]? = some st.marks[j] := List.getElem?_eq_getElem hj
    have hgd : (st.marks.getD j fun _ => zero) = st.marks[j] := by rw [List.getD_eq_getElem?_getD, hF]; rfl
    refine (back2_any H j _ hF).mono ?_
    rintro e w2 ⟨rfl, rs', rd', H2, h1, h2, ht⟩
    refine ⟨rfl, Rep.out (st' := MbM.back st j) (rs' := rs') (rd' := rd') (vl' := .slice none 0 0) (vm' := vm) (ms' := ms) ?_ ⟨Nat.zero_le _, hm, hn⟩ (fun b hbb => ?_) (fun b e => .inl e) (ht.mono fun b e => .inl e)⟩
    · show Mm w2 g rs' rd' _ vm ms st.n (app (st.marks.getD j fun _ => zero) []) (st.marks.getD j fun _ => zero) [] st.marks st.fails true
      rw [hgd, app_nil]
      exact H2
    · rcases hbb with e | e | e | e | e
      · exact .inl (.inl e)
      · exact .inr (by rw [e]; exact h1)
      · exact .inr (by rw [e]; exact h2)
      · cases e
      · exact .inl (.inr (.inr (.inr (.inr e))))
theorem mem_ok : MemC Rep where
  lt h b hb := by
    obtain ⟨rs, rd, vl, vm, ms, H, _, rfl, rfl⟩ := h
    exact H.lt hb
  frame h ht hT := by
    obtain ⟨rs, rd, vl, vm, ms, H, hk, rfl, rfl⟩ := h
    exact ⟨rs, rd, vl, vm, ms, H.turn ht hT, hk, rfl, rfl⟩
  mono h hk := rep_mono h hk
  own h b hb := by
    obtain ⟨rs, rd, vl, vm, ms, H, _, rfl, rfl⟩ := h
    exact H.own hb
  new n h1 h2 w := new_any n h1 h2 w
  bad n h w := bad_any n h w
  read h _ _ i := by
    obtain ⟨rs, rd, vl, vm, ms, H, _, rfl, rfl⟩ := h
    refine (read2_any H i _ rfl).mono ?_
    rintro e w2 ⟨rfl, hb⟩
    exact ⟨rfl, hb⟩
  look h _ _ i := by
    obtain ⟨rs, rd, vl, vm, ms, H, _, rfl, rfl⟩ := h
    refine (look2_any H i _ rfl).mono ?_
    rintro e w2 ⟨rfl, hb⟩
    exact ⟨rfl, hb⟩
  touched h := by
    obtain ⟨rs, rd, vl, vm, ms, H, _, rfl, rfl⟩ := h
    refine (touched2_any H).mono ?_
    rintro e w2 ⟨rfl, rfl⟩
    exact ⟨rfl, Below.refl _ _⟩
  len h := by
    obtain ⟨rs, rd, vl, vm, ms, H, _, rfl, rfl⟩ := h
    refine (len2_any H).mono ?_
    rintro e w2 ⟨rfl, rfl⟩
    exact ⟨rfl, Below.refl _ _⟩
  unflushed h := by
    obtain ⟨rs, rd, vl, vm, ms, H, _, rfl, rfl⟩ := h
    refine (unflushed2_any H).mono ?_
    rintro e w2 ⟨rfl, rfl⟩
    exact ⟨rfl, Below.refl _ _⟩
  write h _ hk i x _ := write_ok h hk i x
  flush h _ hk := flush_ok h hk
  writeF h _ hk hf i x _ := by
    have h0 := h
    obtain ⟨rs, rd, vl, vm, ms, H, _, rfl, rfl⟩ := h
    refine (write2_bad H i _ rfl x (.inr hf)).mono ?_
    rintro e w2 ⟨rfl, hb⟩
    exact ⟨rfl, Rep.same h0 hb⟩
  flushF h _ hk hf := by
    have h0 := h
    obtain ⟨rs, rd, vl, vm, ms, H, ⟨hl, _, _⟩, rfl, rfl⟩ := h
    refine (flush2_any H (by omega)).mono ?_
    rintro e w2 (⟨_, rfl, rfl⟩ | ⟨hf', _⟩)
    · exact ⟨rfl, Rep.same h0 (Below.refl _ _)⟩
    · rw [hf] at hf'; cases hf'
  crash h _ hk P picks pn pc hp hne := crash_ok h hk P picks pn pc hp hne
  set h _ hk i x _ := set_ok h hk i x
  mark h _ _ := mark_ok h
  back h _ _ n := back_ok h n
  fail h q := by
    obtain ⟨rs, rd, vl, vm, ms, H, ⟨hl, hm, hn⟩, rfl, rfl⟩ := h
    refine (fail2_any H q).mono ?_
    rintro e w2 ⟨rfl, H2, ht⟩
    exact ⟨rfl, Rep.out (st' := MbM.fail _ q) H2 ⟨Nat.le_trans hl (Nat.le_succ _), hm, hn⟩ (fun b e => .inl e) (fun b e => .inl e) (ht.mono fun b e => .inl e)⟩
  clean h := by
    obtain ⟨rs, rd, vl, vm, ms, H, ⟨hl, hm, hn⟩, rfl, rfl⟩ := h
    refine (clean2_any H).mono ?_
    rintro e w2 ⟨rfl, H2, ht⟩
    exact ⟨rfl, Rep.out (st' := MbM.clean _) H2 ⟨Nat.le_trans hl (Nat.le_succ _), hm, hn⟩ (fun b e => .inl e) (fun b e => .inl e) (ht.mono fun b e => .inl e)⟩
  copy h _ hk := by
    obtain ⟨rs, rd, vl, vm, ms, H, ⟨hl, hm, hn⟩, rfl, rfl⟩ := h
    refine (copy2_any H (by omega) hm).mono ?_
    rintro e w2 ⟨g2, rs2, rd2, vl2, vm2, ms2, rfl, H2, hnew, hb⟩
    exact ⟨g2, _, _, rfl, ⟨rs2, rd2, vl2, vm2, ms2, H2, ⟨hl, hm, hn⟩, rfl, rfl⟩, (fun b e => hnew b (.inl e)), (fun b e => .inr (hnew b (.inr e))), hb⟩
end
end MbO
namespace MbP
theorem mem_ok : MemC MbO.Rep := MbO.mem_ok
end MbP
end Go.Proofs.Yteglhalninlapaa
set_option maxRecDepth 100000
namespace Go.Proofs.Yteglhalninlapaa
open Go.ChangeShapes Go.WideShapes Go.ChangeAt Go.RowKit
attribute [local go_sem] Gives
namespace MbP
open MbM
def f2 : Nat → Nat := fun _ => 2
theorem f2_lt (j : Nat) : f2 j < 256 := by unfold f2; omega
def K1 : St := wrT (made 4) 1 f1
def K2 : St := wrT K1 1 f2
def K3 : St := crash K2 [1, 0]
def K4 : St := mkT K3
def K5 : St := seT K4 1 f2
def K6 : St := bkT K5 0
def K7 : St := bkT K6 1
def K8 : St := wrT K7 2 f1
def K9 : St := seT K8 2 f2
def K10 : St := MbM.fail K9 true
def K11 : St := flT K10
def K12 : St := MbM.fail K11 false
def K13 : St := clean K12
theorem e_s3 : sees K3 1 f1 = true := by
  unfold sees
  rw [show rdE K3 1 = 0 from rfl, show rdS K3 1 = f1 from rfl, Bool.and_eq_true]
  exact ⟨rfl, eqA_yes fun _ _ => rfl⟩
theorem e_m3 : mkN K3 = 0 ∧ mkE K3 = 0 := ⟨rfl, rfl⟩
theorem e_s4 : lkE K4 1 = 0 := rfl
theorem e_h5 : K5.hurt = true := rfl
theorem e_b5 : bkE K5 0 = 0 := rfl
theorem e_s6 : sees K6 1 f1 = true := by
  unfold sees
  rw [show rdE K6 1 = 0 from rfl, show rdS K6 1 = f1 from rfl, Bool.and_eq_true]
  exact ⟨rfl, eqA_yes fun _ _ => rfl⟩
theorem e_b6 : bkE K6 1 = 2 := rfl
theorem e_s8 : lkE K8 2 = 0 := rfl
theorem e_l9 : K9.log.length = 0 := rfl
theorem e_s9 : sees K9 2 f2 = true := by
  unfold sees
  rw [show rdE K9 2 = 0 from rfl, show rdS K9 2 = f2 from rfl, Bool.and_eq_true]
  exact ⟨rfl, eqA_yes fun _ _ => rfl⟩
theorem e_r10 : rdE K10 1 = 10 ∧ rdS K10 1 = zero := ⟨rfl, rfl⟩
theorem e_f10 : MbM.flE K10 = 10 := rfl
theorem e_r11 : rdE K11 4 = 2 ∧ rdS K11 4 = zero := ⟨rfl, rfl⟩
def KM : Nat → St
  | 0 => K13
  | j + 1 => mkT (KM j)
theorem KM_len : ∀ j, j ≤ 63 → (KM j).marks.length = 1 + j ∧ (KM j).hurt = false
  | 0, _ => ⟨rfl, rfl⟩
  | j + 1, h => by
    obtain ⟨h1, h2⟩ := KM_len j (by omega)
    unfold KM mkT
    rw [if_neg (by omega)]
    exact ⟨by show ((KM j).marks ++ [_]).length = _; rw [List.length_append, h1]; rfl, h2⟩
theorem e_m63 : mkE (KM 63) = 7 ∧ mkN (KM 63) = 0 ∧ (mkT (KM 63)).hurt = false := by
  obtain ⟨h1, h2⟩ := KM_len 63 (by omega)
  unfold mkE mkN mkT
  rw [if_pos (by omega), if_pos (by omega), if_pos (by omega)]
  exact ⟨rfl, rfl, h2⟩
/-- A member beside a block of zeros. -/
structure PZ (rep : RepT) (B : Nat) (w : World) (m : Nat) (M I : Nat → Prop) (k : Nat) (st : St) (z : Nat) : Prop where
  p : P1 rep B w m M I k st
  zb : Blk w z 58 MbO.zMb7
  out : ∀ b, M b ∨ I b → b ≠ z
section
variable {rep : RepT} {B : Nat} {w w' : World} {m : Nat} {M I : Nat → Prop} {k : Nat} {st st' : St} {z : Nat}
theorem PZ.below (hC : MemC rep) (h : PZ rep B w m M I k st z) (hb : Below w.heap.size w w') : PZ rep B w' m M I k st z := ⟨h.p.below hC hb, h.zb.below hb h.zb.lt, h.out⟩
theorem PZ.went (h : PZ rep B w m M I k st z) {k' : Nat} (ho : outP rep w m M I k' st' w') (hok : st'.ok) : ∃ M' I', PZ rep B w' m M' I' k' st' z ∧ Went w M I w' M' I' := by
  obtain ⟨M', I', h1, h2⟩ := h.p.out ho hok
  refine ⟨M', I', ⟨h1, h.zb.turn h2.2.2 fun e => h.out z (.inl e) rfl, fun b hb e => ?_⟩, h2⟩
  have hz := h.zb.lt
  rcases hb with hb | hb
  · rcases h2.1 b hb with x | x
    · exact h.out b (.inl x) e
    · omega
  · rcases h2.2.1 b hb with x | x | x
    · exact h.out b (.inl x) e
    · exact h.out b (.inr x) e
    · omega
theorem PZ.cell (h : PZ rep B w m M I k st z) : w.cell? ⟨z, 0, none⟩ = some (.int .i64 0) := h.zb.cell 0
end
theorem lit10 (w : World) : Arg (w.alloc (.cells #[.int .u8 1, .int .u8 0] 5)) (some ⟨w.heap.size, 0, none⟩) [1, 0] 2 2 where
  len := rfl
  cap := Nat.le_refl _
  max := by unfold maxLen; omega
  b256 := fun x hx => by simp at hx; omega
  none e := by cases e
  byt _ := ⟨w.heap.size, 0, rfl, by simp, fun i hi => by
    have hb : Blk (w.alloc (.cells #[.int .u8 1, .int .u8 0] 5)) w.heap.size 5 #[.int .u8 1, .int .u8 0] := Blk.new _ _ _
    rw [Nat.zero_add, hb.cell]
    simp at hi
    have : i = 0 ∨ i = 1 := by omega
    rcases this with rfl | rfl <;> rfl⟩
set_option maxHeartbeats 20000000 in
set_option maxRecDepth 100000 in
theorem known_law {rep : RepT} (hC : MemC rep) (W : World) :
    Calls Try.prog 5 #[] W fun e w' => e = .returned (.bool true) ∧ Below W.heap.size W w' := by
  go_enter Try.func5, Try.ntmps5
  go_wp2_with fail
  refine (hC.new 4 (by omega) (by omega) W).mono ?_
  rintro e w1 ⟨m, M1, I1, rfl, hr, hMI, h1⟩
  have P1 := hid (show P1 rep W.heap.size w1 m M1 I1 0 (made 4) from ⟨hr, made_ok 4, hMI, h1.size⟩)
  have B1 := hid h1
  have O0 := hid (made_ok 4)
  clear hr hMI h1
  unfold at'
  go_wp2_with fail
  refine (awake_any hC w1).mono ?_
  rintro e w2 ⟨rfl, h⟩
  have P2 := hid (P1.out.below hC h)
  have B2 := hid (B1.out.trans (h.mono B1.out.size))
  clear P1 B1 h
  go_wp2_with fail
  refine (full_any 1 (by omega) w2).mono ?_
  rintro e w3 ⟨rfl, h⟩
  have P3 := hid (P2.out.below hC h)
  have B3 := hid (B2.out.trans (h.mono B2.out.size))
  clear P2 B2 h
  go_wp2_with fail
  refine (hC.write P3.out.prog P3.out.ok (by omega) 1 f1 f1_lt).mono ?_
  rintro e w4 ⟨rfl, ho⟩
  obtain ⟨M4, I4, p4, g4⟩ := P3.out.out ho (wr_ok P3.out.ok 1 f1_lt)
  have P4 := hid (show P1 rep W.heap.size w4 m M4 I4 _ K1 from p4)
  have B4 := hid (B3.out.trans (P3.out.went g4))
  clear ho p4 g4 P3 B3
  go_wp2_with fail
  refine (full_any 2 (by omega) w4).mono ?_
  rintro e w5 ⟨rfl, h⟩
  have P5 := hid (P4.out.below hC h)
  have B5 := hid (B4.out.trans (h.mono B4.out.size))
  clear P4 B4 h
  go_wp2_with fail
  refine (hC.write P5.out.prog P5.out.ok (by omega) 1 f2 f2_lt).mono ?_
  rintro e w6 ⟨rfl, ho⟩
  obtain ⟨M6, I6, p6, g6⟩ := P5.out.out ho (wr_ok P5.out.ok 1 f2_lt)
  have P6 := hid (show P1 rep W.heap.size w6 m M6 I6 _ K2 from p6)
  have B6 := hid (B5.out.trans (P5.out.went g6))
  clear ho p6 g6 P5 B5
  go_wp2_with fail
  generalize hwa : World.alloc w6 _ = w7
  have ap := hid (show Arg w7 (some ⟨w6.heap.size, 0, none⟩) [1, 0] 2 2 by rw [← hwa]; exact lit10 w6)
  have hb7 : Below w6.heap.size w6 w7 := by rw [← hwa]; exact (Below.refl _ _).alloc (Nat.le_refl _) _
  have hlt6 := hid fun b hb => hC.lt P6.out.prog b hb
  obtain ⟨gp, hgp⟩ : ∃ n, n = w6.heap.size := ⟨_, rfl⟩
  have HG := hid hgp
  rw [← hgp] at ap ⊢
  have P7 := hid (P6.out.below hC hb7)
  have B7 := hid (B6.out.trans (hb7.mono B6.out.size))
  clear hwa hb7 hgp P6 B6
  refine (hC.crash P7.out.prog P7.out.ok (by omega) (some ⟨gp, 0, none⟩) [1, 0] 2 2 ap.out (fun b o _ e hb => by cases e; have := hlt6.out _ hb; have := HG.out; omega)).mono ?_
  rintro e w8 ⟨rfl, ho⟩
  obtain ⟨M8, I8, p8, g8⟩ := P7.out.out ho (cr_ok P7.out.ok [1, 0])
  have P8 := hid (show P1 rep W.heap.size w8 m M8 I8 _ K3 from p8)
  have B8 := hid (B7.out.trans (P7.out.went g8))
  clear ho p8 g8 P7 B7
  go_wp2_with fail
  refine (full_any 1 (by omega) w8).mono ?_
  rintro e w9 ⟨rfl, h⟩
  have P9 := hid (P8.out.below hC h)
  have B9 := hid (B8.out.trans (h.mono B8.out.size))
  clear P8 B8 h
  go_wp2_with fail
  refine (reads_any hC m 3 M8 I8 K3 1 f1 (by omega) w9 P9.out.prog P9.out.ok).mono ?_
  rintro e w10 ⟨rfl, h⟩
  rw [e_s3]
  have P10 := hid (P9.out.below hC h)
  have B10 := hid (B9.out.trans (h.mono B9.out.size))
  clear P9 B9 h
  go_wp2_with fail
  refine (hC.mark P10.out.prog P10.out.ok (by omega)).mono ?_
  rintro e w11 ⟨rfl, ho⟩
  rw [e_m3.1, e_m3.2]
  obtain ⟨M11, I11, p11, g11⟩ := P10.out.out ho (mk_ok P10.out.ok)
  have P11 := hid (show P1 rep W.heap.size w11 m M11 I11 _ K4 from p11)
  have B11 := hid (B10.out.trans (P10.out.went g11))
  clear ho p11 g11 P10 B10
  go_wp2_with fail
  refine (full_any 2 (by omega) w11).mono ?_
  rintro e w12 ⟨rfl, h⟩
  have P12 := hid (P11.out.below hC h)
  have B12 := hid (B11.out.trans (h.mono B11.out.size))
  clear P11 B11 h
  go_wp2_with fail
  refine (hC.set P12.out.prog P12.out.ok (by omega) 1 f2 f2_lt).mono ?_
  rintro e w13 ⟨rfl, ho⟩
  rw [e_s4]
  obtain ⟨M13, I13, p13, g13⟩ := P12.out.out ho (se_ok P12.out.ok 1 f2_lt)
  have P13 := hid (show P1 rep W.heap.size w13 m M13 I13 _ K5 from p13)
  have B13 := hid (B12.out.trans (P12.out.went g13))
  clear ho p13 g13 P12 B12
  go_wp2_with fail
  refine (hC.touched P13.out.prog).mono ?_
  rintro e w14 ⟨rfl, h⟩
  rw [e_h5]
  have P14 := hid (P13.out.below hC h)
  have B14 := hid (B13.out.trans (h.mono B13.out.size))
  clear P13 B13 h
  go_wp2_with fail
  refine (hC.back P14.out.prog P14.out.ok (by omega) 0).mono ?_
  rintro e w15 ⟨rfl, ho⟩
  rw [e_b5]
  obtain ⟨M15, I15, p15, g15⟩ := P14.out.out ho (bk_ok P14.out.ok 0)
  have P15 := hid (show P1 rep W.heap.size w15 m M15 I15 _ K6 from p15)
  have B15 := hid (B14.out.trans (P14.out.went g15))
  clear ho p15 g15 P14 B14
  go_wp2_with fail
  refine (full_any 1 (by omega) w15).mono ?_
  rintro e w16 ⟨rfl, h⟩
  have P16 := hid (P15.out.below hC h)
  have B16 := hid (B15.out.trans (h.mono B15.out.size))
  clear P15 B15 h
  go_wp2_with fail
  refine (reads_any hC m 6 _ _ K6 1 f1 (by omega) w16 P16.out.prog P16.out.ok).mono ?_
  rintro e w17 ⟨rfl, h⟩
  rw [e_s6]
  have P17 := hid (P16.out.below hC h)
  have B17 := hid (B16.out.trans (h.mono B16.out.size))
  clear P16 B16 h
  go_wp2_with fail
  refine (hC.back P17.out.prog P17.out.ok (by omega) 1).mono ?_
  rintro e w18 ⟨rfl, ho⟩
  rw [e_b6]
  obtain ⟨M18, I18, p18, g18⟩ := P17.out.out ho (bk_ok P17.out.ok 1)
  have P18 := hid (show P1 rep W.heap.size w18 m M18 I18 _ K7 from p18)
  have B18 := hid (B17.out.trans (P17.out.went g18))
  clear ho p18 g18 P17 B17
  go_wp2_with fail
  refine (full_any 1 (by omega) w18).mono ?_
  rintro e w19 ⟨rfl, h⟩
  have P19 := hid (P18.out.below hC h)
  have B19 := hid (B18.out.trans (h.mono B18.out.size))
  clear P18 B18 h
  go_wp2_with fail
  refine (hC.write P19.out.prog P19.out.ok (by omega) 2 f1 f1_lt).mono ?_
  rintro e w20 ⟨rfl, ho⟩
  obtain ⟨M20, I20, p20, g20⟩ := P19.out.out ho (wr_ok P19.out.ok 2 f1_lt)
  have P20 := hid (show P1 rep W.heap.size w20 m M20 I20 _ K8 from p20)
  have B20 := hid (B19.out.trans (P19.out.went g20))
  clear ho p20 g20 P19 B19
  go_wp2_with fail
  refine (full_any 2 (by omega) w20).mono ?_
  rintro e w21 ⟨rfl, h⟩
  have P21 := hid (P20.out.below hC h)
  have B21 := hid (B20.out.trans (h.mono B20.out.size))
  clear P20 B20 h
  go_wp2_with fail
  refine (hC.set P21.out.prog P21.out.ok (by omega) 2 f2 f2_lt).mono ?_
  rintro e w22 ⟨rfl, ho⟩
  rw [e_s8]
  obtain ⟨M22, I22, p22, g22⟩ := P21.out.out ho (se_ok P21.out.ok 2 f2_lt)
  have P22 := hid (show P1 rep W.heap.size w22 m M22 I22 _ K9 from p22)
  have B22 := hid (B21.out.trans (P21.out.went g22))
  clear ho p22 g22 P21 B21
  go_wp2_with fail
  refine (hC.unflushed P22.out.prog).mono ?_
  rintro e w23 ⟨rfl, h⟩
  rw [e_l9]
  have P23 := hid (P22.out.below hC h)
  have B23 := hid (B22.out.trans (h.mono B22.out.size))
  clear P22 B22 h
  go_wp2_with fail
  refine (full_any 2 (by omega) w23).mono ?_
  rintro e w24 ⟨rfl, h⟩
  have P24 := hid (P23.out.below hC h)
  have B24 := hid (B23.out.trans (h.mono B23.out.size))
  clear P23 B23 h
  go_wp2_with fail
  refine (reads_any hC m 9 _ _ K9 2 f2 (by omega) w24 P24.out.prog P24.out.ok).mono ?_
  rintro e w25 ⟨rfl, h⟩
  rw [e_s9]
  have P25 := hid (P24.out.below hC h)
  have B25 := hid (B24.out.trans (h.mono B24.out.size))
  clear P24 B24 h
  go_wp2_with fail
  refine (hC.fail P25.out.prog true).mono ?_
  rintro e w26 ⟨rfl, ho⟩
  obtain ⟨M26, I26, p26, g26⟩ := P25.out.out ho (fa_ok P25.out.ok true)
  have P26 := hid (show P1 rep W.heap.size w26 m M26 I26 _ K10 from p26)
  have B26 := hid (B25.out.trans (P25.out.went g26))
  clear ho p26 g26 P25 B25
  go_wp2_with fail
  refine (hC.read P26.out.prog P26.out.ok (by omega) 1).mono ?_
  rintro e w27 ⟨rfl, h⟩
  rw [e_r10.2, e_r10.1]
  have P27 := hid (P26.out.below hC h)
  have B27 := hid (B26.out.trans (h.mono B26.out.size))
  clear P26 B26 h
  go_upto_region 15 with (first | (with_reducible apply alA tSe) | ((with_reducible apply stA tSe); rfl; rfl; exact Blk.new _ _ _))
  generalize hw : World.setRow _ _ _ = w28
  have h : Below w27.heap.size w27 w28 := by rw [← hw]; exact below_setRow ((Below.refl _ _).alloc (Nat.le_refl _) _) (Nat.le_refl _) _
  have P28 := hid (P27.out.below hC h)
  have B28 := hid (B27.out.trans (h.mono B27.out.size))
  clear hw h P27 B27
  go_wp2_with fail
  refine (hC.flush P28.out.prog P28.out.ok (by omega)).mono ?_
  rintro e w29 ⟨rfl, ho⟩
  rw [e_f10]
  obtain ⟨M29, I29, p29, g29⟩ := P28.out.out ho (fl_ok P28.out.ok)
  have P29 := hid (show P1 rep W.heap.size w29 m M29 I29 _ K11 from p29)
  have B29 := hid (B28.out.trans (P28.out.went g29))
  clear ho p29 g29 P28 B28
  go_wp2_with fail
  refine (hC.read P29.out.prog P29.out.ok (by omega) 4).mono ?_
  rintro e w30 ⟨rfl, h⟩
  rw [e_r11.2, e_r11.1]
  have P30 := hid (P29.out.below hC h)
  have B30 := hid (B29.out.trans (h.mono B29.out.size))
  clear P29 B29 h
  go_upto_region 17 with (first | (with_reducible apply alA tSe) | ((with_reducible apply stA tSe); rfl; rfl; exact Blk.new _ _ _))
  generalize hw : World.setRow _ _ _ = w31
  have h : Below w30.heap.size w30 w31 := by rw [← hw]; exact below_setRow ((Below.refl _ _).alloc (Nat.le_refl _) _) (Nat.le_refl _) _
  have P31 := hid (P30.out.below hC h)
  have B31 := hid (B30.out.trans (h.mono B30.out.size))
  clear hw h P30 B30
  go_wp2_with fail
  refine (hC.fail P31.out.prog false).mono ?_
  rintro e w32 ⟨rfl, ho⟩
  obtain ⟨M32, I32, p32, g32⟩ := P31.out.out ho (fa_ok P31.out.ok false)
  have P32 := hid (show P1 rep W.heap.size w32 m M32 I32 _ K12 from p32)
  have B32 := hid (B31.out.trans (P31.out.went g32))
  clear ho p32 g32 P31 B31
  go_wp2_with fail
  refine (hC.clean P32.out.prog).mono ?_
  rintro e w33 ⟨rfl, ho⟩
  obtain ⟨M33, I33, p33, g33⟩ := P32.out.out ho (cl_ok P32.out.ok)
  have P33 := hid (show P1 rep W.heap.size w33 m M33 I33 _ K13 from p33)
  have B33 := hid (B32.out.trans (P32.out.went g33))
  clear ho p33 g33 P32 B32
  go_upto_region 21 with (with_reducible apply MbO.bldMz)
  generalize hw : World.alloc w33 _ = w34
  obtain ⟨gz, hgz⟩ : ∃ n, n = w33.heap.size := ⟨_, rfl⟩
  rw [← hgz]
  have h : Below w33.heap.size w33 w34 := by rw [← hw]; exact (Below.refl _ _).alloc (Nat.le_refl _) _
  have P34 := hid (show PZ rep W.heap.size w34 m M33 I33 13 (KM 0) gz from ⟨P33.out.below hC h, by rw [← hw, hgz]; exact Blk.new _ _ _, fun b hb e => by have := hC.lt P33.out.prog b hb; omega⟩)
  have B34 := hid (B33.out.trans (h.mono B33.out.size))
  clear hw h hgz P33 B33
  go_wp2_with fail
  refine (MbO.readN 0 w34).mono ?_
  rintro e w35 ⟨rfl, h⟩
  have P35 := hid (P34.out.below hC h)
  have B35 := hid (B34.out.trans (h.mono B34.out.size))
  clear P34 B34 h
  go_upto_region 22 with (first | (with_reducible apply alA tSe) | ((with_reducible apply stA tSe); rfl; rfl; exact Blk.new _ _ _))
  generalize hw : World.setRow _ _ _ = w36
  have h : Below w35.heap.size w35 w36 := by rw [← hw]; exact below_setRow ((Below.refl _ _).alloc (Nat.le_refl _) _) (Nat.le_refl _) _
  have P36 := hid (P35.out.below hC h)
  have B36 := hid (B35.out.trans (h.mono B35.out.size))
  clear hw h P35 B35
  go_wp2_with fail
  refine (MbO.lookZ gz 0 w36 P36.out.cell).mono ?_
  rintro e w37 ⟨rfl, h⟩
  have P37 := hid (P36.out.below hC h)
  have B37 := hid (B36.out.trans (h.mono B36.out.size))
  clear P36 B36 h
  go_upto_region 23 with (first | (with_reducible apply alA tSe) | ((with_reducible apply stA tSe); rfl; rfl; exact Blk.new _ _ _))
  generalize hw : World.setRow _ _ _ = w38
  have h : Below w37.heap.size w37 w38 := by rw [← hw]; exact below_setRow ((Below.refl _ _).alloc (Nat.le_refl _) _) (Nat.le_refl _) _
  have P38 := hid (P37.out.below hC h)
  have B38 := hid (B37.out.trans (h.mono B37.out.size))
  clear hw h P37 B37
  go_wp2_with fail
  refine (MbO.markZ gz w38 P38.out.cell).mono ?_
  rintro e w39 ⟨rfl, h⟩
  have P39 := hid (P38.out.below hC h)
  have B39 := hid (B38.out.trans (h.mono B38.out.size))
  clear P38 B38 h
  go_wp2_with fail
  refine (hC.bad 0 (by omega) w39).mono ?_
  rintro e w40 ⟨rfl, h⟩
  have P40 := hid (P39.out.below hC h)
  have B40 := hid (B39.out.trans (h.mono B39.out.size))
  clear P39 B39 h
  go_wp2_with fail
  go_loopw [20] (fun u wr => ∃ (j : Nat) (M I : Nat → Prop), u = .int .i64 j ∧ j ≤ 63 ∧ Hid (PZ rep W.heap.size wr m M I (13 + j) (KM j) gz) ∧ Hid (Below W.heap.size W wr)) (fun u _ => 63 - (intOf u).toNat)
  case atStart => exact ⟨0, _, _, rfl, Nat.zero_le _, P40, B40⟩
  case round =>
    clear P40 B40
    obtain ⟨j, M, I, rfl, hj, PL, BL⟩ := hrel
    by_cases hgo : j < 63
    · have t1 : (j : Int) < 63 := by omega
      go_wp2_with fail
      refine (hC.mark PL.out.p.prog PL.out.p.ok (by omega)).mono ?_
      rintro e w2 ⟨rfl, ho⟩
      obtain ⟨M2, I2, p2, g2⟩ := PL.out.went ho (mk_ok PL.out.p.ok)
      have P2 := hid p2
      have B2 := hid (BL.out.trans (PL.out.p.went g2))
      clear ho p2 g2 PL BL
      go_wp2_with fail
      go_roundw
      case rel => exact ⟨j + 1, M2, I2, by go_num, by omega, P2, B2⟩
      case measure => simp [intOf] <;> omega
    · have hje : j = 63 := by omega
      subst hje
      have P100 := PL
      have B100 := BL
      clear PL BL hgo hj
      go_wp2_with fail
      obtain ⟨w100, hw100⟩ : ∃ x, x = wr := ⟨_, rfl⟩
      subst hw100
      refine (hC.mark P100.out.p.prog P100.out.p.ok (by omega)).mono ?_
      rintro e w101 ⟨rfl, ho⟩
      rw [e_m63.2.1, e_m63.1]
      obtain ⟨M101, I101, p101, g101⟩ := P100.out.went ho (mk_ok P100.out.p.ok)
      have P101 := hid (p101)
      have B101 := hid (B100.out.trans (P100.out.p.went g101))
      clear ho p101 g101 P100 B100
      go_wp2_with fail
      refine (hC.touched P101.out.p.prog).mono ?_
      rintro e w102 ⟨rfl, h⟩
      rw [e_m63.2.2]
      have P102 := hid (P101.out.below hC h)
      have B102 := hid (B101.out.trans (h.mono B101.out.size))
      clear P101 B101 h
      go_wp2_with fail
      refine (full_any 1 (by omega) w102).mono ?_
      rintro e w103 ⟨rfl, h⟩
      have P103 := hid (P102.out.below hC h)
      have B103 := hid (B102.out.trans (h.mono B102.out.size))
      clear P102 B102 h
      go_wp2_with fail
      refine (MbO.writeN 0 f1 w103).mono ?_
      rintro e w104 ⟨rfl, h⟩
      have P104 := hid (P103.out.below hC h)
      have B104 := hid (B103.out.trans (h.mono B103.out.size))
      clear P103 B103 h
      go_wp2_with fail
      refine (MbO.flushZ gz w104 P104.out.cell).mono ?_
      rintro e w105 ⟨rfl, h⟩
      have P105 := hid (P104.out.below hC h)
      have B105 := hid (B104.out.trans (h.mono B104.out.size))
      clear P104 B104 h
      go_wp2_with fail
      refine (MbO.crashN w105).mono ?_
      rintro e w106 ⟨rfl, h⟩
      have P106 := hid (P105.out.below hC h)
      have B106 := hid (B105.out.trans (h.mono B105.out.size))
      clear P105 B105 h
      go_wp2_with fail
      refine (full_any 1 (by omega) w106).mono ?_
      rintro e w107 ⟨rfl, h⟩
      have P107 := hid (P106.out.below hC h)
      have B107 := hid (B106.out.trans (h.mono B106.out.size))
      clear P106 B106 h
      go_wp2_with fail
      refine (MbO.setZ gz 0 f1 w107 P107.out.cell).mono ?_
      rintro e w108 ⟨rfl, h⟩
      have P108 := hid (P107.out.below hC h)
      have B108 := hid (B107.out.trans (h.mono B107.out.size))
      clear P107 B107 h
      go_wp2_with fail
      refine (MbO.backN 0 w108).mono ?_
      rintro e w109 ⟨rfl, h⟩
      have P109 := hid (P108.out.below hC h)
      have B109 := hid (B108.out.trans (h.mono B108.out.size))
      clear P108 B108 h
      go_wp2_with fail
      refine (MbO.failZ gz w109 P109.out.cell).mono ?_
      rintro e w110 ⟨rfl, h⟩
      have P110 := hid (P109.out.below hC h)
      have B110 := hid (B109.out.trans (h.mono B109.out.size))
      clear P109 B109 h
      go_wp2_with fail
      refine (MbO.touchedN w110).mono ?_
      rintro e w111 ⟨rfl, h⟩
      have P111 := hid (P110.out.below hC h)
      have B111 := hid (B110.out.trans (h.mono B110.out.size))
      clear P110 B110 h
      go_wp2_with fail
      refine (MbO.lenN w111).mono ?_
      rintro e w112 ⟨rfl, h⟩
      have P112 := hid (P111.out.below hC h)
      have B112 := hid (B111.out.trans (h.mono B111.out.size))
      clear P111 B111 h
      go_wp2_with fail
      refine (MbO.unflushedZ gz w112 P112.out.cell).mono ?_
      rintro e w113 ⟨rfl, h⟩
      have P113 := hid (P112.out.below hC h)
      have B113 := hid (B112.out.trans (h.mono B112.out.size))
      clear P112 B112 h
      go_wp2_with fail
      refine (MbO.copyN w113).mono ?_
      rintro e w114 ⟨rfl, h⟩
      have P114 := hid (P113.out.below hC h)
      have B114 := hid (B113.out.trans (h.mono B113.out.size))
      clear P113 B113 h
      go_wp2_with fail
      refine bodyPost_ret (results_tmp (t := 0) rfl _ _ _) rfl ?_
      exact ⟨rfl, B114.out⟩
end MbP
end Go.Proofs.Yteglhalninlapaa
