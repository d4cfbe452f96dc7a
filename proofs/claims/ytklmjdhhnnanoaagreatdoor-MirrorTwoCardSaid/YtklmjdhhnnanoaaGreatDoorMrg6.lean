/-
  The program's Copy.
  The program's member keeps MemC.
  An append of one element to a slice that is the call's own, or that is full: what it turns, place by place.
  The law CellKnown: the chapter's examples; cells that are none.
  The program's cell in memory; isMade, New, Read.
  The program's History and Copy.
  The program's Advance.
  The program's cell keeps its contracts.
  What is wanted of the program's bus: the contracts of its calls, over whatever it lays in memory; a bus of the program's beside one of the document's.
  The law's do: an act done to both.
  The law's alike: bus, members and cell tell what the document's do.
  Lists of elements: a literal of two elements.
  The law's full, given and two.
  The law's two: a bus of two members.
  A region that draws its order, as in XRegC; that what has come up is closed is at hand.
  The law's awake, in plain words.
  The law's awake.
  The law BusSees: what a step sets is seen by each I/O from its number on, and by none ahead.
  The law's over: an act over a bus of the program's.
  A bus in plain words: what an act leaves of steps, log and power; without steps; while the power is gone.
  The law BusOff: from a crash on, till the power is there again, each I/O is ErrOff, and changes nothing.
  What comes in, number by number.
  What comes in: rows of n bytes by value.
  Slices of bytes that come in.
  Slices of slices of bytes that come in.
  Slices of structs of k cells that come in.
  What comes in to the laws of chapter 13: rows of acts; bytes.
  What comes in to the laws of chapter 13: steps, each with picks.
-/
import Derived.Test.YtklmjdhhnnanoaaGreatDoorMrg5
import Derived.Deep.OwnRows
import Derived.Lib.SliceRun
import Derived.Deep.Slices
import Derived.OpenShut
import Derived.ChangeMaps5
import Derived.ChangeSlices
import Derived.Deep.Strs
set_option linter.unusedVariables false
set_option linter.unusedSimpArgs false
set_option maxRecDepth 100000
namespace Go.Proofs.YtklmjdhhnnanoaaGreatDoor
open Go.ChangeShapes Go.WideShapes Go.ChangeAt Go.RowKit
attribute [local go_sem] Gives GivesE
namespace MbO
open MbM MbP
def zMb7 : Array Value := #[.int .i64 0, .map none, .map none, .slice none 0 0, .slice none 0 0, .bool false, .bool false]
structure CpC (w0 : World) (S D : Img) (d4 d9 : Bool) (w' : World) : Prop where
  b : Below w0.heap.size w0 w'
  c1 : d9 = true → d4 = true
  s0 : d4 = false → w'.heap.size = w0.heap.size
  s1 : d4 = true → d9 = false → w'.heap.size = w0.heap.size + 1
  m1 : d4 = true → MapB w' w0.heap.size S
  m2 : d9 = true → MapB w' (w0.heap.size + 1) D
structure CpL (w0 w : World) (g rs rd : Nat) (vl : Value) (gm N : Nat) (ds : List Nat) (n : Int) (S D : Img) (log : List Pt) (marks : List Img) (f h : Bool) : Prop where
  blk : Blk w g 123 (mbC7 n rs rd vl (.slice (some ⟨gm, 0, none⟩) N N) f h)
  seen : MapB w rs S
  dur : MapB w rd D
  lg : OwnL w w0.heap.size vl log
  mr : Blk w gm 119 (ds.map (fun d => Value.map (some d)) ++ List.replicate (N - ds.length) (Value.map none)).toArray
  im : ∀ (i m : Nat) (F : Img), ds[i]? = some m → marks[i]? = some F → MapB w m F
  len : ds.length ≤ N ∧ marks.length = N
  new : w0.heap.size ≤ g ∧ w0.heap.size ≤ rs ∧ w0.heap.size ≤ rd ∧ w0.heap.size ≤ gm ∧ ∀ d, d ∈ ds → w0.heap.size ≤ d
  ne : rs ≠ rd
  out : ∀ d, d ∈ ds → d ≠ rs ∧ d ≠ rd
  b : Below w0.heap.size w0 w
section
variable {w0 w w' : World} {g rs rd : Nat} {vl vm : Value} {gm N : Nat} {ds ms : List Nat} {n : Int} {S D : Img} {log : List Pt} {marks : List Img} {f h : Bool}
theorem CpL.below (H : CpL w0 w g rs rd vl gm N ds n S D log marks f h) (hb : Below w.heap.size w w') : CpL w0 w' g rs rd vl gm N ds n S D log marks f h where
  blk := H.blk.below hb H.blk.lt
  seen := H.seen.below hb
  dur := H.dur.below hb
  lg := H.lg.below hb (Nat.le_refl _)
  mr := H.mr.below hb H.mr.lt
  im i m F h1 h2 := (H.im i m F h1 h2).below hb
  len := H.len
  new := H.new
  ne := H.ne
  out := H.out
  b := H.b.trans (hb.mono H.b.size)
theorem CpL.put (H : CpL w0 w g rs rd vl gm N ds n S D log marks f h) (hb : Below w.heap.size w w') (r : Nat) (F : Img) (hr : w.heap.size ≤ r) (hm : MapB w' r F) (hF : marks[ds.length]? = some F) (hl : ds.length < N) :
    CpL w0 (w'.setCell ⟨gm, ds.length, none⟩ (.map (some r))) g rs rd vl gm N (ds ++ [r]) n S D log marks f h := by
  have H' := H.below hb
  have hgm := H.mr.lt
  have tu := Turn.setCell (S := fun b => b = gm) w' ⟨gm, ds.length, none⟩ (.map (some r)) rfl
  have hmr : ∀ {x : Nat} {G : Img}, MapB w' x G → x ≠ gm := fun hx e => map_ne hx (show w'.heap[gm]? = some (.cells _ 119 (0, 0)) from H'.mr) e.symm
  exact {
    blk := H'.blk.turn tu fun e => by
      have h1 : w'.heap[g]? = some (.cells _ 123 (0, 0)) := H'.blk
      have h2 : w'.heap[gm]? = some (.cells _ 119 (0, 0)) := H'.mr
      rw [e, h2] at h1
      simp at h1
    seen := H'.seen.turn tu (hmr H'.seen)
    dur := H'.dur.turn tu (hmr H'.dur)
    lg := H'.lg.turn tu fun b e e2 => by
      obtain ⟨c, hc⟩ := H'.lg.obj e
      have h2 : w'.heap[gm]? = some (.cells _ 119 (0, 0)) := H'.mr
      rw [e2, h2] at hc
      simp at hc
    mr := by
      have h1 := H'.mr.setCell_same ds.length (.map (some r))
      have e : ((ds.map (fun d => Value.map (some d)) ++ List.replicate (N - ds.length) (Value.map none)).toArray).setIfInBounds ds.length (.map (some r)) = ((ds ++ [r]).map (fun d => Value.map (some d)) ++ List.replicate (N - (ds ++ [r]).length) (Value.map none)).toArray := by
        rw [List.setIfInBounds_toArray, List.set_append_right _ _ (by rw [List.length_map]; exact Nat.le_refl _), List.length_map, Nat.sub_self, List.length_append, List.length_cons, List.length_nil, List.map_append, List.append_assoc]
        obtain ⟨q, hq⟩ : ∃ q, N - ds.length = q + 1 := ⟨N - ds.length - 1, by omega⟩
        rw [hq, show N - (ds.length + (0 + 1)) = q by omega, List.replicate_succ]
        rfl
      rw [e] at h1
      exact h1
    im := fun i m G h1 h2 => by
      by_cases hi : i < ds.length
      · rw [List.getElem?_append_left hi] at h1
        exact (H'.im i m G h1 h2).turn tu (hmr (H'.im i m G h1 h2))
      · have hi2 : i = ds.length := by
          have := (List.getElem?_eq_some_iff.1 h1).1
          rw [List.length_append, List.length_cons, List.length_nil] at this
          omega
        subst hi2
        rw [List.getElem?_append_right (Nat.le_refl _), Nat.sub_self, List.getElem?_cons_zero] at h1
        cases h1
        rw [hF] at h2
        cases h2
        exact hm.turn tu (hmr hm)
    len := ⟨by rw [List.length_append, List.length_cons, List.length_nil]; omega, H.len.2⟩
    new := ⟨H.new.1, H.new.2.1, H.new.2.2.1, H.new.2.2.2.1, fun d hd => by
      rcases List.mem_append.1 hd with hd | hd
      · exact H.new.2.2.2.2 d hd
      · rw [List.mem_singleton] at hd
        subst hd
        exact Nat.le_trans H.b.size hr⟩
    ne := H.ne
    out := fun d hd => by
      rcases List.mem_append.1 hd with hd | hd
      · exact H.out d hd
      · rw [List.mem_singleton] at hd
        subst hd
        have := H.seen.lt
        have := H.dur.lt
        exact ⟨by omega, by omega⟩
    b := H'.b.trans (tu.below (Nat.le_trans H.new.2.2.2.1 (Nat.le_of_lt H'.mr.lt) |> fun _ => H'.b.size) fun b e => by rw [e]; exact H.new.2.2.2.1) }
theorem CpL.full (H : CpL w0 w g rs rd vl gm N ds n S D log marks f h) (hl : ds.length = N) (hn : 0 < n) (hN : N ≤ 64) : Mm w g rs rd vl (.slice (some ⟨gm, 0, none⟩) N N) ds n S D log marks f h where
  blk := H.blk
  pos := hn
  seen := H.seen
  dur := H.dur
  lg := H.lg.lower (Nat.zero_le _)
  mr := by
    have h1 := H.mr
    rw [hl, Nat.sub_self, List.replicate_zero, List.append_nil] at h1
    have h2 : w.heap[gm]? = some (.cells (ds.map (fun d => Value.map (some d))).toArray 119 (0, 0)) := h1
    have := own_of_ranges (l := ds.map some) (cap := N) (k := 1) (en := imE) (fun _ => rfl) (by omega) h2 (by simp [hl]) (by simp [hl]) (by unfold maxLen; omega) fun q x hx j v hj => by
      rw [cell_of_row w gm _ _ 119 (0, 0) h2]
      cases j with
      | zero =>
        rw [Nat.mul_one, Nat.add_zero]
        rw [List.getElem?_map] at hx
        cases hd : ds[q]? with
        | none => rw [hd] at hx; cases hx
        | some d =>
          rw [hd] at hx
          cases hx
          have : v = .map (some d) := by simpa [imE] using hj.symm
          subst this
          simp [hd]
      | succ j => simp [imE] at hj
    rw [List.length_map, hl] at this
    exact this
  len := by rw [hl, H.len.2]
  im := H.im
  ne := H.ne
  out := H.out
end
section
variable {w : World} {g rs rd : Nat} {vl vm : Value} {ms : List Nat} {n : Int} {S D : Img} {log : List Pt} {marks : List Img} {f h : Bool}
end
end MbO
end Go.Proofs.YtklmjdhhnnanoaaGreatDoor
set_option maxRecDepth 100000
namespace Go.Proofs.YtklmjdhhnnanoaaGreatDoor
open Go.ChangeShapes Go.WideShapes Go.ChangeAt Go.RowKit
attribute [local go_sem] Gives GivesE
namespace MbO
open MbM MbP
theorem app_flt {i : Int} {j : Int} (hj : j ≠ i) : ∀ (l : List Pt) (d1 d2 : Img), d1 j = d2 j → app d1 (l.filter fun p => decide (p.i ≠ i)) j = app d2 l j
  | [], d1, d2, h => h
  | p :: l, d1, d2, h => by
    by_cases e : p.i = i
    · rw [List.filter_cons_of_neg (by simp [e]), app_cons]
      refine app_flt hj l d1 _ ?_
      unfold upd
      rw [if_neg fun x => hj (x.trans e)]
      exact h
    · rw [List.filter_cons_of_pos (by simp [e]), app_cons, app_cons]
      refine app_flt hj l _ _ ?_
      unfold upd
      split
      · rfl
      · exact h
theorem seen_set (st : St) (i : Int) (x : Nat → Nat) : MbM.seen (MbM.set st i x) = upd (MbM.seen st) ⟨i, x⟩ := by
  funext j
  show app (upd st.dur ⟨i, x⟩) (st.log.filter fun p => decide (p.i ≠ i)) j = upd (app st.dur st.log) ⟨i, x⟩ j
  by_cases e : j = i
  · subst e
    rw [app_out fun p hp => by simpa using (List.mem_filter.1 hp).2]
    unfold upd
    rw [if_pos rfl, if_pos rfl]
  · rw [app_flt e st.log (upd st.dur ⟨i, x⟩) st.dur (by unfold upd; rw [if_neg e])]
    conv => rhs; unfold upd
    rw [if_neg e]
theorem seen_write (st : St) (i : Int) (x : Nat → Nat) : MbM.seen (MbM.write st i x) = upd (MbM.seen st) ⟨i, x⟩ := app_snoc _ _ _
section
variable {w w' : World} {g : Nat} {M I : Nat → Prop} {k : Nat} {st : St}
theorem rep_mono {k' : Nat} (h : Rep w g M I k st) (hk : k ≤ k') : Rep w g M I k' st := by
  obtain ⟨rs, rd, vl, vm, ms, H, ⟨hl, hm, hn⟩, rfl, rfl⟩ := h
  exact ⟨rs, rd, vl, vm, ms, H, ⟨Nat.le_trans hl hk, hm, hn⟩, rfl, rfl⟩
theorem same_out (h : Rep w g M I k st) (hb : Below w.heap.size w w') : outP Rep w g M I (k + 1) st w' := Rep.same (rep_mono h (by omega)) hb
theorem write_ok (h : Rep w g M I k st) (hk : k ≤ 210000) (i : Int) (x : Nat → Nat) : Calls Tryz.prog 89 #[at' g, .int .i64 i, .agg (ar 64 x)] w fun e w' => e = .returned (.int .i64 (rdE st i)) ∧ outP Rep w g M I (k + 1) (wrT st i x) w' := by
  have h0 := h
  obtain ⟨rs, rd, vl, vm, ms, H, ⟨hl, hm, hn⟩, rfl, rfl⟩ := h
  by_cases hq : st.may i = true
  · by_cases hf : st.fails = true
    · have e1 : rdE st i = 10 := by unfold rdE; rw [if_pos hq, if_pos hf]
      have e2 : wrT st i x = st := by unfold wrT; rw [if_pos hq, if_pos hf]
      rw [e1, e2]
      refine (write2_bad H i true hq x (.inr hf)).mono ?_
      rintro e w2 ⟨rfl, hb⟩
      rw [hf]
      exact ⟨rfl, same_out h0 hb⟩
    · have hf' : st.fails = false := by simpa using hf
      have e1 : rdE st i = 0 := by unfold rdE; rw [if_pos hq, if_neg hf]
      have e2 : wrT st i x = MbM.write st i x := by unfold wrT; rw [if_pos hq, if_neg hf]
      rw [e1, e2]
      rw [hf'] at H
      refine (write2_any H i hq x (by omega)).mono ?_
      rintro e w2 ⟨rfl, vl', H2, hb, ht⟩
      refine ⟨rfl, Rep.out (st' := MbM.write st i x) (rs' := rs) (rd' := rd) (vl' := vl') (vm' := vm) (ms' := ms) (by rw [seen_write]; rw [← hf'] at H2; exact H2) ⟨?_, hm, hn⟩ (fun b hbb => ?_) (fun b e => .inl e) ht⟩
      · show (st.log ++ [_]).length ≤ k + 1
        rw [List.length_append]
        simp
        exact hl
      · rcases hbb with e | e | e | e | e
        · exact .inl (.inl e)
        · exact .inl (.inr (.inl e))
        · exact .inl (.inr (.inr (.inl e)))
        · exact (hb b e).imp (fun e => .inr (.inr (.inr (.inl e)))) id
        · exact .inl (.inr (.inr (.inr (.inr e))))
  · have hq' : st.may i = false := by simpa using hq
    have e1 : rdE st i = 2 := by unfold rdE; rw [if_neg hq]
    have e2 : wrT st i x = st := by unfold wrT; rw [if_neg hq]
    rw [e1, e2]
    refine (write2_bad H i false hq' x (.inl rfl)).mono ?_
    rintro e w2 ⟨rfl, hb⟩
    exact ⟨rfl, same_out h0 hb⟩
theorem three_set {rs rd : Nat} {vl vm : Value} : ∀ b, (b = g ∨ b = rs ∨ b = rd) → mSet g rs rd vl vm b := fun _ e => e.imp id fun e => e.imp id fun e => .inl e
theorem flush_ok (h : Rep w g M I k st) (hk : k ≤ 210000) : Calls Tryz.prog 91 #[at' g] w fun e w' => e = .returned (.int .i64 (MbM.flE st)) ∧ outP Rep w g M I (k + 1) (flT st) w' := by
  have h0 := h
  obtain ⟨rs, rd, vl, vm, ms, H, ⟨hl, hm, hn⟩, rfl, rfl⟩ := h
  refine (flush2_any H (by omega)).mono ?_
  rintro e w2 (⟨hf, rfl, rfl⟩ | ⟨hf, E, rfl, rfl, H2, ht⟩)
  · rw [show MbM.flE st = 10 by unfold MbM.flE; rw [if_pos hf], show flT st = st by unfold flT; rw [if_pos hf]]
    exact ⟨rfl, same_out h0 (Below.refl _ _)⟩
  · rw [show MbM.flE st = 0 by unfold MbM.flE; rw [if_neg (by simp [hf])], show flT st = MbM.flush st by unfold flT; rw [if_neg (by simp [hf])]]
    have hs : app (MbM.seen st) (st.log.map fun p => ⟨p.i, app st.dur st.log p.i⟩) = app st.dur st.log := sem_settle fun p hp => hp
    rw [hs] at H2
    refine ⟨rfl, Rep.out (st' := MbM.flush st) (rs' := rs) (rd' := rd) (vl' := .slice none 0 0) (vm' := vm) (ms' := ms) H2 ⟨Nat.zero_le _, hm, hn⟩ (fun b hb => .inl ?_) (fun b e => .inl e) (ht.mono three_set)⟩
    rcases hb with e | e | e | e | e
    · exact .inl e
    · exact .inr (.inl e)
    · exact .inr (.inr (.inl e))
    · cases e
    · exact .inr (.inr (.inr (.inr e)))
theorem crash_ok (h : Rep w g M I k st) (hk : k ≤ 210000) (P : Option Addr) (picks : List Nat) (pn pc : Nat) (hp : Arg w P picks pn pc) (hne : ∀ b o, 0 < picks.length → P = some ⟨b, o, none⟩ → ¬ (M b ∨ I b)) :
    Calls Tryz.prog 177 #[at' g, .slice P pn pc] w fun e w' => e = .returned (.int .i64 0) ∧ outP Rep w g M I (k + 1) (MbM.crash st picks) w' := by
  obtain ⟨rs, rd, vl, vm, ms, H, ⟨hl, hm, hn⟩, rfl, rfl⟩ := h
  refine (crash2_any H (by omega) P picks pn pc hp fun b o h1 h2 e => hne b o h1 h2 (.inl (.inr (.inr (.inl e))))).mono ?_
  rintro e w2 ⟨E, rfl, rfl, H2, ht⟩
  have hs : app (MbM.seen st) (st.log.map fun p => ⟨p.i, app st.dur (kept st.log picks) p.i⟩) = app st.dur (kept st.log picks) := sem_settle fun p hp => kept_mem hp
  rw [hs] at H2
  refine ⟨rfl, Rep.out (st' := MbM.crash st picks) (rs' := rs) (rd' := rd) (vl' := .slice none 0 0) (vm' := vm) (ms' := ms) H2 ⟨Nat.zero_le _, hm, hn⟩ (fun b hb => .inl ?_) (fun b e => .inl e) (ht.mono three_set)⟩
  rcases hb with e | e | e | e | e
  · exact .inl e
  · exact .inr (.inl e)
  · exact .inr (.inr (.inl e))
  · cases e
  · exact .inr (.inr (.inr (.inr e)))
theorem set_ok (h : Rep w g M I k st) (hk : k ≤ 210000) (i : Int) (x : Nat → Nat) : Calls Tryz.prog 24 #[at' g, .int .i64 i, .agg (ar 64 x)] w fun e w' => e = .returned (.int .i64 (lkE st i)) ∧ outP Rep w g M I (k + 1) (seT st i x) w' := by
  have h0 := h
  obtain ⟨rs, rd, vl, vm, ms, H, ⟨hl, hm, hn⟩, rfl, rfl⟩ := h
  by_cases hq : st.may i = true
  · rw [show lkE st i = 0 by unfold lkE; rw [if_pos hq], show seT st i x = MbM.set st i x by unfold seT; rw [if_pos hq]]
    refine (set2_any H i hq x (by omega)).mono ?_
    rintro e w2 ⟨rfl, vl', H2, hb, ht⟩
    refine ⟨rfl, Rep.out (st' := MbM.set st i x) (rs' := rs) (rd' := rd) (vl' := vl') (vm' := vm) (ms' := ms) (by rw [seen_set]; exact H2) ⟨?_, hm, hn⟩ (fun b hbb => .inl ?_) (fun b e => .inl e) ht⟩
    · exact Nat.le_trans (List.length_filter_le _ _) (by omega)
    · rcases hbb with e | e | e | e | e
      · exact .inl e
      · exact .inr (.inl e)
      · exact .inr (.inr (.inl e))
      · exact .inr (.inr (.inr (.inl (by rw [← hb]; exact e))))
      · exact .inr (.inr (.inr (.inr e)))
  · have hq' : st.may i = false := by simpa using hq
    rw [show lkE st i = 2 by unfold lkE; rw [if_neg hq], show seT st i x = st by unfold seT; rw [if_neg hq]]
    refine (set2_bad H i hq' x).mono ?_
    rintro e w2 ⟨rfl, hb⟩
    exact ⟨rfl, same_out h0 hb⟩
theorem mark_ok (h : Rep w g M I k st) : Calls Tryz.prog 160 #[at' g] w fun e w' => e = .returned (.tuple #[.int .i64 (mkN st), .int .i64 (mkE st)]) ∧ outP Rep w g M I (k + 1) (mkT st) w' := by
  have h0 := h
  obtain ⟨rs, rd, vl, vm, ms, H, ⟨hl, hm, hn⟩, rfl, rfl⟩ := h
  by_cases hf : 64 ≤ st.marks.length
  · rw [show mkN st = 0 by unfold mkN; rw [if_pos hf], show mkE st = 7 by unfold mkE; rw [if_pos hf], show mkT st = st by unfold mkT; rw [if_pos hf]]
    refine (mark2_full H (by omega)).mono ?_
    rintro e w2 ⟨rfl, rfl⟩
    exact ⟨rfl, same_out h0 (Below.refl _ _)⟩
  · rw [show mkN st = st.marks.length by unfold mkN; rw [if_neg hf], show mkE st = 0 by unfold mkE; rw [if_neg hf], show mkT st = MbM.mark st by unfold mkT; rw [if_neg hf]]
    refine (mark2_any H (by omega)).mono ?_
    rintro e w2 ⟨rfl, vm', r, H2, hb, hr, ht⟩
    refine ⟨rfl, Rep.out (st' := MbM.mark st) (rs' := rs) (rd' := rd) (vl' := vl) (vm' := vm') (ms' := ms ++ [r]) H2 ⟨?_, ?_, hn⟩ (fun b hbb => ?_) (fun b e => ?_) ht⟩
    · exact Nat.le_trans hl (by omega)
    · show (st.marks ++ [_]).length ≤ 64
      rw [List.length_append, List.length_cons, List.length_nil]
      omega
    · rcases hbb with e | e | e | e | e
      · exact .inl (.inl e)
      · exact .inl (.inr (.inl e))
      · exact .inl (.inr (.inr (.inl e)))
      · exact .inl (.inr (.inr (.inr (.inl e))))
      · exact (hb b e).imp (fun e => .inr (.inr (.inr (.inr e)))) id
    · rcases List.mem_append.1 e with e | e
      · exact .inl e
      · rw [List.mem_singleton] at e
        subst e
        exact .inr hr
theorem back_ok (h : Rep w g M I k st) (n : Int) : Calls Tryz.prog 162 #[at' g, .int .i64 n] w fun e w' => e = .returned (.int .i64 (bkE st n)) ∧ outP Rep w g M I (k + 1) (bkT st n) w' := by
  have h0 := h
  obtain ⟨rs, rd, vl, vm, ms, H, ⟨hl, hm, hn⟩, rfl, rfl⟩ := h
  by_cases hb : n < 0 ∨ (st.marks.length : Int) ≤ n
  · rw [show bkE st n = 2 by unfold bkE; rw [if_pos hb], show bkT st n = st by unfold bkT; rw [if_pos hb]]
    refine (back2_bad H n hb).mono ?_
    rintro e w2 ⟨rfl, rfl⟩
    exact ⟨rfl, same_out h0 (Below.refl _ _)⟩
  · rw [show bkE st n = 0 by unfold bkE; rw [if_neg hb], show bkT st n = MbM.back st n.toNat by unfold bkT; rw [if_neg hb]]
    obtain ⟨j, rfl⟩ : ∃ j : Nat, n = j := ⟨n.toNat, by omega⟩
    rw [Int.toNat_natCast]
    have hj : j < st.marks.length := by omega
    have hF : st.marks[j]? = some st.marks[j] := List.getElem?_eq_getElem hj
    have hgd : (st.marks.getD j fun _ => zero) = st.marks[j] := by rw [List.getD_eq_getElem?_getD, hF]; rfl
    refine (back2_any H j _ hF).mono ?_
    rintro e w2 ⟨rfl, rs', rd', H2, h1, h2, ht⟩
    refine ⟨rfl, Rep.out (st' := MbM.back st j) (rs' := rs') (rd' := rd') (vl' := .slice none 0 0) (vm' := vm) (ms' := ms) ?_ ⟨Nat.zero_le _, hm, hn⟩ (fun b hbb => ?_) (fun b e => .inl e) (ht.mono fun b e => .inl e)⟩
    · show Mm w2 g rs' rd' _ vm ms st.n (app (st.marks.getD j fun _ => zero) []) (st.marks.getD j fun _ => zero) [] st.marks st.fails true
      rw [hgd, app_nil]
      exact H2
    · rcases hbb with e | e | e | e | e
      · exact .inl (.inl e)
      · exact .inr (by rw [e]; exact h1)
      · exact .inr (by rw [e]; exact h2)
      · cases e
      · exact .inl (.inr (.inr (.inr (.inr e))))
theorem memB_ok : MemB Rep where
  lt h b hb := by
    obtain ⟨rs, rd, vl, vm, ms, H, _, rfl, rfl⟩ := h
    exact H.lt hb
  frame h ht hT := by
    obtain ⟨rs, rd, vl, vm, ms, H, hk, rfl, rfl⟩ := h
    exact ⟨rs, rd, vl, vm, ms, H.turn ht hT, hk, rfl, rfl⟩
  mono h hk := rep_mono h hk
  own h b hb := by
    obtain ⟨rs, rd, vl, vm, ms, H, _, rfl, rfl⟩ := h
    exact H.own hb
  new n h1 h2 w := new_any n h1 h2 w
  bad n h w := bad_any n h w
  read h _ _ i := by
    obtain ⟨rs, rd, vl, vm, ms, H, _, rfl, rfl⟩ := h
    refine (read2_any H i _ rfl).mono ?_
    rintro e w2 ⟨rfl, hb⟩
    exact ⟨rfl, hb⟩
  look h _ _ i := by
    obtain ⟨rs, rd, vl, vm, ms, H, _, rfl, rfl⟩ := h
    refine (look2_any H i _ rfl).mono ?_
    rintro e w2 ⟨rfl, hb⟩
    exact ⟨rfl, hb⟩
  len h := by
    obtain ⟨rs, rd, vl, vm, ms, H, _, rfl, rfl⟩ := h
    refine (len2_any H).mono ?_
    rintro e w2 ⟨rfl, rfl⟩
    exact ⟨rfl, Below.refl _ _⟩
  unflushed h := by
    obtain ⟨rs, rd, vl, vm, ms, H, _, rfl, rfl⟩ := h
    refine (unflushed2_any H).mono ?_
    rintro e w2 ⟨rfl, rfl⟩
    exact ⟨rfl, Below.refl _ _⟩
  write h _ hk i x _ := write_ok h hk i x
  flush h _ hk := flush_ok h hk
  writeF h _ hk hf i x _ := by
    have h0 := h
    obtain ⟨rs, rd, vl, vm, ms, H, _, rfl, rfl⟩ := h
    refine (write2_bad H i _ rfl x (.inr hf)).mono ?_
    rintro e w2 ⟨rfl, hb⟩
    exact ⟨rfl, Rep.same h0 hb⟩
  flushF h _ hk hf := by
    have h0 := h
    obtain ⟨rs, rd, vl, vm, ms, H, ⟨hl, _, _⟩, rfl, rfl⟩ := h
    refine (flush2_any H (by omega)).mono ?_
    rintro e w2 (⟨_, rfl, rfl⟩ | ⟨hf', _⟩)
    · exact ⟨rfl, Rep.same h0 (Below.refl _ _)⟩
    · rw [hf] at hf'; cases hf'
  crash h _ hk P picks pn pc hp hne := crash_ok h hk P picks pn pc hp hne
  set h _ hk i x _ := set_ok h hk i x
  mark h _ _ := mark_ok h
  back h _ _ n := back_ok h n
  fail h q := by
    obtain ⟨rs, rd, vl, vm, ms, H, ⟨hl, hm, hn⟩, rfl, rfl⟩ := h
    refine (fail2_any H q).mono ?_
    rintro e w2 ⟨rfl, H2, ht⟩
    exact ⟨rfl, Rep.out (st' := MbM.fail _ q) H2 ⟨Nat.le_trans hl (Nat.le_succ _), hm, hn⟩ (fun b e => .inl e) (fun b e => .inl e) (ht.mono fun b e => .inl e)⟩
end
end MbO
namespace MbP
theorem memB_ok : MemB MbO.Rep := MbO.memB_ok
end MbP
end Go.Proofs.YtklmjdhhnnanoaaGreatDoor
set_option maxRecDepth 100000
namespace Go.Proofs.YtklmjdhhnnanoaaGreatDoor
open Go.ChangeShapes Go.WideShapes Go.ChangeAt Go.RowKit
attribute [local go_sem] Gives GivesE
section
variable {α : Type} {k : Nat} {en : α → List Value} {E L : TypeId} {S : Nat → Prop} {w : World} {a : Act} {dst : Option Tmp} {ty : TypeId} {pos : String} {after : Array Edge} {gd : Option (Nat × Bool)} {R : Value → World → Prop} {o1 o2 : Operand} {v : Value} {l m : List α} {A : Option Addr} {n cap B : Nat}
end
namespace ClP
theorem TurnC.refl (M : Cs) (w : World) : TurnC M w w := ⟨Turn.refl _ _, fun _ _ _ _ => rfl⟩
theorem TurnC.trans {M N : Cs} {w w' w2 : World} (h : TurnC M w w') (h2 : TurnC N w' w2) (hT : ∀ p, N p → M p ∨ w.heap.size ≤ p.1) : TurnC M w w2 where
  out := h.out.trans h2.out fun k e => e.elim fun i e => (hT (k, i) e).imp (fun x => ⟨i, x⟩) id
  cell b i hb hn := (h2.cell b i (Nat.lt_of_lt_of_le hb h.size) fun e => (hT _ e).elim hn fun h3 => absurd hb (Nat.not_lt.2 h3)).trans (h.cell b i hb hn)
theorem TurnC.of_new {M : Cs} {w w' : World} (h : Below w.heap.size w w') : TurnC M w w' where
  out := Turn.of_new h
  cell b i hb _ := World.cell?_of_block (h.block b hb)
structure Hst (w : World) (own : Bool) (b : Nat) (v : Value) (L : List Held) : Prop where
  pos : 0 < L.length
  lt : b < w.heap.size
  sli : ∃ c, v = .slice (some ⟨b, 0, none⟩) L.length c ∧ Sli 33 ceL (fun x => x = b) w (some ⟨b, 0, none⟩) L L.length c ∧ (own = false → c = L.length)
  lg : own = true → OwnX 102 33 ceL w 0 v L
def tailC (own : Bool) (b n : Nat) : Cs := fun p => own = true ∧ p.1 = b ∧ n * 33 ≤ p.2
theorem own_sli {w : World} {v : Value} {L : List Held} {b : Nat} (h : OwnX 102 33 ceL w 0 v L) (hv : v.ownBlock = some b) : b < w.heap.size ∧ ∃ c, v = .slice (some ⟨b, 0, none⟩) L.length c ∧ Sli 33 ceL (fun x => x = b) w (some ⟨b, 0, none⟩) L L.length c := by
  refine ⟨(h.own b hv).2, ?_⟩
  have h2 := h.2
  obtain ⟨A, c, rfl, s⟩ := h.sli ceL_len
  rcases h2 with ⟨e, _⟩ | ⟨g, cap, cur, e, _⟩
  · rw [e] at hv; cases hv
  · rw [e] at hv
    obtain rfl : g = b := by cases hv; rfl
    cases e
    refine ⟨c, rfl, s.len, s.cap, s.max, (fun e => by cases e), fun hn => ?_⟩
    obtain ⟨b', o', e', _, hl, hr⟩ := s.lst hn
    cases e'
    exact ⟨g, 0, rfl, rfl, hl, hr⟩
theorem Hst.turn {w w' : World} {own : Bool} {b : Nat} {v : Value} {L : List Held} {T : Cs} (h : Hst w own b v L) (ht : TurnC T w w') (h1 : ∀ p, p.1 = b → p.2 < L.length * 33 → ¬ T p) (h2 : ∀ p, tailC own b L.length p → ¬ T p) : Hst w' own b v L := by
  refine ⟨h.pos, Nat.lt_of_lt_of_le h.lt ht.size, ?_, fun e => ?_⟩
  · obtain ⟨c, e, s, f⟩ := h.sli
    refine ⟨c, e, ⟨s.len, s.cap, s.max, s.none, fun hn => ?_⟩, f⟩
    obtain ⟨b', o', e', hb', hl, hr⟩ := s.lst hn
    cases e'
    refine ⟨b, 0, rfl, rfl, Nat.lt_of_lt_of_le hl ht.size, fun q x hq j u hj => ?_⟩
    have hq' := (List.getElem?_eq_some_iff.1 hq).1
    have hj' : j < 33 := by have := (List.getElem?_eq_some_iff.1 hj).1; rwa [ceL_len] at this
    rw [ht.cell b _ hl (h1 (b, 0 + q * 33 + j) rfl (show 0 + q * 33 + j < L.length * 33 by omega))]
    exact hr q x hq j u hj
  · subst e
    refine (h.lg rfl).turn ht.out fun b' hb' ⟨i, hi⟩ => ?_
    obtain ⟨c, e, _⟩ := h.sli
    rw [e] at hb'
    obtain rfl : b = b' := by cases hb'; rfl
    by_cases hlt : i < L.length * 33
    · exact h1 (b, i) rfl hlt hi
    · exact h2 (b, i) ⟨rfl, rfl, Nat.not_lt.1 hlt⟩ hi
theorem Hst.below {w w' : World} {own : Bool} {b : Nat} {v : Value} {L : List Held} (h : Hst w own b v L) (hb : Below w.heap.size w w') : Hst w' own b v L :=
  h.turn (T := fun _ => False) (TurnC.of_new hb) (fun _ _ _ e => e) fun _ _ e => e
section
variable {a : Act} {w : World} {dst : Option Tmp} {ty : TypeId} {pos : String} {after : Array Edge} {gd : Option (Nat × Bool)} {R : Value → World → Prop} {o1 o2 : Operand} {own : Bool} {b : Nat} {v : Value} {L : List Held} {x : Held} {S : Nat → Prop} {A : Option Addr} {c : Nat}
end
structure ApH (w0 : World) (own : Bool) (bk : Nat) (L : List Held) (x : Held) (d8 d9 : Bool) (v8 v9 : Value) (w' : World) : Prop where
  t : TurnC (tailC own bk L.length) w0 w'
  b : d9 = false → Below w0.heap.size w0 w'
  lit : d8 = true → d9 = false → ∃ A c, v8 = .slice A 1 c ∧ Sli 33 ceL (fun b => w0.heap.size ≤ b) w' A [x] 1 c
  own : d9 = true → ∃ b', Hst w' true b' v9 (L ++ [x]) ∧ (own = true ∧ b' = bk ∨ w0.heap.size ≤ b')
end ClP
end Go.Proofs.YtklmjdhhnnanoaaGreatDoor
set_option maxRecDepth 100000
namespace Go.Proofs.YtklmjdhhnnanoaaGreatDoor
open Go.ChangeShapes Go.WideShapes Go.ChangeAt Go.RowKit
attribute [local go_sem] Gives GivesE
namespace ClP
section
variable {ops : Array Oper} {Q : Exit → Act → World → Prop} {a : Act} {w : World} {rest : List Oper} {dst : Option Tmp} {ty : TypeId} {pos : String} {after : Array Edge} {x y : Operand}
end
end ClP
end Go.Proofs.YtklmjdhhnnanoaaGreatDoor
set_option maxRecDepth 100000
namespace Go.Proofs.YtklmjdhhnnanoaaGreatDoor
open Go.ChangeShapes Go.WideShapes Go.ChangeAt Go.RowKit
attribute [local go_sem] Gives GivesE
theorem ret_rowt' {a : Act} {w : World} {g : Nat} {t T : TypeId} {cs : Array Value} {fn : Func} {R : Ending → World → Prop} {p q : Tmp} {v : Value} (hT : RowT T cs.size) (hr : fn.results = #[.cell p T, .tmp q]) (hp : a.tmps.getD p undef = .pointer (some ⟨g, 0, none⟩))
    (hq : a.tmps.getD q undef = v) (hdf : a.defers = []) (hb : Blk w g t cs) (hR : R (.returned (.tuple #[.agg cs, v])) w) : bodyPost Tryz.prog fn R .ret a w := by
  obtain ⟨d, h1, h2⟩ := hT.desc
  refine bodyPost_ret ?_ hdf hR
  have hv : (loadVar T ⟨g, 0, none⟩).run Tryz.prog w = .ok (.agg cs) w := run_loadVar_row w g _ _ cs (0, 0) _ hb h1 (by cases d <;> first | rfl | exact h2) hT.size
  have hp' : a.tmps[p]?.getD undef = .pointer (some ⟨g, 0, none⟩) := by simpa using hp
  have hq' : a.tmps[q]?.getD undef = v := by simpa using hq
  simp [results, hr, hp', hq', asAddr, hv]
namespace ClP
def pcF (m : Bool) (h : Held) (v : Value) (j : Nat) : Value := if j = 0 then .bool m else if j = 34 then v else (ceL h).getD (j - 1) undef
def pcV (m : Bool) (h : Held) (v : Value) : Array Value := row 35 (pcF m h v)
section
variable {w : World} {g : Nat} {m : Bool} {h : Held} {v : Value} {t : TypeId}
theorem pc_m (H : Blk w g t (pcV m h v)) : w.cell? ⟨g, 0, none⟩ = some (.bool m) := by
  rw [H.cell, pcV, get_row_lt (by omega)]; rfl
theorem pc_h (H : Blk w g t (pcV m h v)) : w.rangeAt g 1 (ceL h) := fun j u hj => by
  have hlt : j < 33 := by have := (List.getElem?_eq_some_iff.1 hj).1; rwa [ceL_len] at this
  rw [H.cell, pcV, get_row_lt (by omega)]
  unfold pcF
  rw [if_neg (by omega), if_neg (by omega), show 1 + j - 1 = j by omega, List.getD_eq_getElem?_getD, hj]; rfl
end
theorem built_pc (h : Held) (A : Option Addr) (n k : Nat) : Tryz.prog.built 156 [(0, .bool true), (1, .agg (ceL h).toArray), (2, .slice A n k)] = some (pcV true h (.slice A n k)) := by kernel_rfl
theorem built_pn (h : Held) : Tryz.prog.built 156 [(0, .bool true), (1, .agg (ceL h).toArray)] = some (pcV true h (.slice none 0 0)) := by kernel_rfl
structure Pc (w : World) (g : Nat) (v : Value) (H : List Held) (h : Held) : Prop where
  blk : Blk w g 156 (pcV true h v)
  hs : OwnX 102 33 ceL w 0 v H
  nil : H = [] → v = .slice none 0 0
def mutC (g : Nat) (v : Value) : Cs := fun p => p.1 = g ∨ v.ownBlock = some p.1
def mutB (g : Nat) (v : Value) (b : Nat) : Prop := b = g ∨ v.ownBlock = some b
def repC : RepC := fun w g M I L h => ∃ H v, Pc w g v H h ∧ L = H ++ [h] ∧ M = mutC g v ∧ I = fun _ => False
section
variable {w w' : World} {g : Nat} {v : Value} {H : List Held} {h : Held}
theorem Pc.ne (P : Pc w g v H h) : v.ownBlock ≠ some g := fun e => by
  obtain ⟨c, hc⟩ := P.hs.obj e
  have h2 : w.heap[g]? = some (.cells _ 156 (0, 0)) := P.blk
  rw [hc] at h2
  simp at h2
theorem Pc.turn {T : Nat → Prop} (P : Pc w g v H h) (ht : Turn T w w') (hT : ∀ b, mutB g v b → ¬ T b) : Pc w' g v H h where
  blk := P.blk.turn ht (hT g (.inl rfl))
  hs := P.hs.turn ht fun b hb => hT b (.inr hb)
  nil := P.nil
theorem Pc.below (P : Pc w g v H h) (hb : Below w.heap.size w w') : Pc w' g v H h :=
  P.turn (T := fun _ => False) (Turn.of_new hb) fun _ _ e => e
theorem made_any (P : Pc w g v H h) : Calls Tryz.prog 101 #[ptr' g] w fun e w' => e = .returned (.bool true) ∧ w' = w := by
  have p0 := pc_m P.blk
  unfold ptr'
  clear P
  go_enter Tryz.func101, Tryz.ntmps101
  go_wp2_with fail
  go_ret
  exact ⟨rfl, rfl⟩
section
variable {ops : Array Oper} {Q : Exit → Act → World → Prop} {a : Act} {w : World} {rest : List Oper} {dst : Option Tmp} {ty : TypeId} {pos : String} {after : Array Edge} {x y : Operand} {n k : Nat} {h : Held} {A : Option Addr}
theorem wblP (hx : a.eval x = .agg (ceL h).toArray) (hy : a.eval y = .slice A n k) (hk : wpList Tryz.prog ops Q rest (a.put dst (.agg (pcV true h (.slice A n k)))) w) : wpList Tryz.prog ops Q (⟨dst, .build 156 #[(0, .const (.bool true)), (1, x), (2, y)], ty, pos, after, none⟩ :: rest) a w := by
  have hr : (Instr.build 156 #[(0, .bool true), (1, .agg (ceL h).toArray), (2, .slice A n k)]).run Tryz.prog w = .ok (.agg (pcV true h (.slice A n k))) w := run_build w _ _ _ (built_pc h A n k)
  have hm : (#[(0, .const (.bool true)), (1, x), (2, y)] : Array (Nat × Operand)).map (fun (i, x) => (i, a.eval x)) = #[(0, .bool true), (1, .agg (ceL h).toArray), (2, .slice A n k)] := by
    simp only [List.map_toArray, List.map_cons, List.map_nil, hx, hy]; rfl
  refine wpList_plain rfl fun K hK => ?_
  unfold Oper.wp execOp
  simp only [Sem.run_bind, hm, hr, Result.andThen_ok, Sem.run_pure]
  exact hK _ _ hk
theorem wblN (hx : a.eval x = .agg (ceL h).toArray) (hk : wpList Tryz.prog ops Q rest (a.put dst (.agg (pcV true h (.slice none 0 0)))) w) : wpList Tryz.prog ops Q (⟨dst, .build 156 #[(0, .const (.bool true)), (1, x)], ty, pos, after, none⟩ :: rest) a w := by
  have hr : (Instr.build 156 #[(0, .bool true), (1, .agg (ceL h).toArray)]).run Tryz.prog w = .ok (.agg (pcV true h (.slice none 0 0))) w := run_build w _ _ _ (built_pn h)
  have hm : (#[(0, .const (.bool true)), (1, x)] : Array (Nat × Operand)).map (fun (i, x) => (i, a.eval x)) = #[(0, .bool true), (1, .agg (ceL h).toArray)] := by
    simp only [List.map_toArray, List.map_cons, List.map_nil, hx]; rfl
  refine wpList_plain rfl fun K hK => ?_
  unfold Oper.wp execOp
  simp only [Sem.run_bind, hm, hr, Result.andThen_ok, Sem.run_pure]
  exact hK _ _ hk
end
set_option maxHeartbeats 600000 in
set_option maxRecDepth 100000 in
theorem pread_any (P : Pc w g v H h) : Calls Tryz.prog 71 #[ptr' g] w fun e w' => e = .returned (.tuple #[.agg (ceL h).toArray, .int .i64 0]) ∧ Below w.heap.size w w' := by
  have HH := hid P
  clear P
  unfold ptr'
  go_enter Tryz.func71, Tryz.ntmps71
  go_upto_region 1 with (with_reducible apply alZ' zCe)
  generalize hw1 : World.alloc w _ = w1
  have b1 := hid (show Blk w1 w.heap.size 102 (ceL (0, zero)).toArray by rw [← hw1]; exact Blk.new _ _ _)
  have BEL := hid (show Below w.heap.size w w1 by rw [← hw1]; exact (Below.refl _ _).alloc (Nat.le_refl _) _)
  have H1 := hid (HH.out.below BEL.out)
  clear hw1 HH
  go_wp2_with fail
  refine (made_any H1.out).mono ?_
  rintro e w2 ⟨rfl, rfl⟩
  have b3 := b1.out.setRow_same (ceL h).toArray
  have B3 := hid (below_setRow BEL.out (Nat.le_refl w.heap.size) (ceL h).toArray)
  go_wp2_with (first | ((with_reducible apply ldR (cs := (ceL h).toArray) (tCe h)); rfl; exact pc_h H1.out.blk) | ((with_reducible apply stR (tCe h)); rfl; rfl; exact b1.out; exact ce_size _ _; exact ce_one _))
  apply ret_rowt' (tCe h) Tryz.results71
  · rfl
  · rfl
  · rfl
  · exact b3
  exact ⟨rfl, B3.out⟩
end
set_option maxHeartbeats 600000 in
set_option maxRecDepth 100000 in
theorem pnew_any (c : Nat) (l : Nat → Nat) (hc : c ≤ most) (w : World) :
    Calls Tryz.prog 34 #[.agg (ceL (c, l)).toArray] w fun e w' => ∃ g, e = .returned (.tuple #[ptr' g, .int .i64 0]) ∧ Pc w' g (.slice none 0 0) [] (c, l) ∧ w.heap.size ≤ g ∧ Below w.heap.size w w' := by
  unfold ptr'
  have t1 : decide ((4611686018427387904 : Int) < (c : Int)) = false := by unfold most at hc; simp; omega
  have t2 : ¬ 4611686018427387904 < c := by unfold most at hc; omega
  clear hc
  go_enter Tryz.func34, Tryz.ntmps34
  go_upto_region 1 with fail
  generalize hw1 : World.alloc w _ = w1
  have b1 := hid (show Blk w1 w.heap.size 102 (ceL (c, l)).toArray by rw [← hw1]; exact Blk.new _ _ _)
  have BEL := hid (show Below w.heap.size w w1 by rw [← hw1]; exact (Below.refl _ _).alloc (Nat.le_refl _) _)
  clear hw1
  have q0 : w1.cell? ⟨w.heap.size, 0, none⟩ = some (.int .u64 (c : Nat)) := ce_n b1.out.whole
  go_wp2_with (first
    | ((with_reducible apply ldR (cs := (ceL (c, l)).toArray) (tCe (c, l))); rfl; exact b1.out.whole)
    | ((with_reducible apply wblN (h := (c, l))); rfl))
  go_ret2
  have hs := BEL.out.size
  exact ⟨w1.heap.size, by simp, ⟨Blk.new _ _ _, OwnX.nil _ _ _ _ _, fun _ => rfl⟩, hs, BEL.out.alloc hs _⟩
end ClP
end Go.Proofs.YtklmjdhhnnanoaaGreatDoor
set_option maxRecDepth 100000
namespace Go.Proofs.YtklmjdhhnnanoaaGreatDoor
open Go.ChangeShapes Go.WideShapes Go.ChangeAt Go.RowKit
attribute [local go_sem] Gives GivesE
namespace ClP
section
variable {w : World} {g : Nat} {v : Value} {H : List Held} {h : Held}
structure CoC (w0 : World) (H : List Held) (nl : Prop) (d8 : Bool) (v8 : Value) (w' : World) : Prop where
  b : Below w0.heap.size w0 w'
  own : d8 = true → OwnX 102 33 ceL w' w0.heap.size v8 H ∧ (nl → v8 = .slice none 0 0)
section
variable {a : Act} {w : World} {dst : Option Tmp} {ty : TypeId} {pos : String} {after : Array Edge} {gd : Option (Nat × Bool)} {R : Value → World → Prop} {x y z : Operand} {n c : Nat} {A : Option Addr}
end
structure HiC (w0 : World) (H : List Held) (h : Held) (d11 d12 : Bool) (v11 v12 : Value) (w' : World) : Prop where
  b : Below w0.heap.size w0 w'
  lit : d11 = true → d12 = false → ∃ A c, v11 = .slice A 1 c ∧ Sli 33 ceL (fun b => w0.heap.size ≤ b) w' A [h] 1 c
  own : d12 = true → OwnX 102 33 ceL w' w0.heap.size v12 (H ++ [h])
end
end ClP
end Go.Proofs.YtklmjdhhnnanoaaGreatDoor
set_option maxRecDepth 100000
namespace Go.Proofs.YtklmjdhhnnanoaaGreatDoor
open Go.ChangeShapes Go.WideShapes Go.ChangeAt Go.RowKit
attribute [local go_sem] Gives GivesE
namespace ClP
section
variable {w w' : World} {g : Nat} {v : Value} {H : List Held} {h : Held}
end
end ClP
end Go.Proofs.YtklmjdhhnnanoaaGreatDoor
set_option maxRecDepth 100000
namespace Go.Proofs.YtklmjdhhnnanoaaGreatDoor
open Go.ChangeShapes Go.WideShapes Go.ChangeAt Go.RowKit
attribute [local go_sem] Gives GivesE
namespace ClP
def zPc : Array Value := pcV false (0, zero) (.slice none 0 0)
end ClP
end Go.Proofs.YtklmjdhhnnanoaaGreatDoor
set_option maxRecDepth 100000
namespace Go.Proofs.YtklmjdhhnnanoaaGreatDoor
open Go.ChangeShapes Go.WideShapes Go.ChangeAt Go.RowKit
attribute [local go_sem] Gives GivesE
namespace BuP
open BuM MbM MbP
abbrev RepM : MbP.RepT := MbO.Rep
def repCb (w : World) (g : Nat) (M : Nat → Prop) (L : List ClP.Held) (h : ClP.Held) : Prop := ∃ H v, ClP.Pc w g v H h ∧ L = H ++ [h] ∧ M = ClP.mutB g v
section
variable {w w' : World} {g : Nat} {M : Nat → Prop} {L : List ClP.Held} {h : ClP.Held}
theorem cb_lt (H : repCb w g M L h) : ∀ q, M q → q < w.heap.size := by
  obtain ⟨H, v, P, _, rfl⟩ := H
  intro q e
  rcases e with e | e
  · rw [e]; exact P.blk.lt
  · exact (P.hs.own _ e).2
theorem cb_turn {T : Nat → Prop} (H : repCb w g M L h) (ht : Turn T w w') (hT : ∀ q, M q → ¬ T q) : repCb w' g M L h := by
  obtain ⟨K, v, P, hL, rfl⟩ := H
  exact ⟨K, v, P.turn ht hT, hL, rfl⟩
theorem cb_new (c : Nat) (l : Nat → Nat) (hc : c ≤ ClP.most) (w : World) : Calls Tryz.prog 34 #[.agg (ClP.ceL (c, l)).toArray] w fun e w' => ∃ g M, e = .returned (.tuple #[MbP.at' g, .int .i64 0]) ∧ repCb w' g M [((c, l) : ClP.Held)] (c, l) ∧ (∀ q, M q → w.heap.size ≤ q) ∧ Below w.heap.size w w' :=
  (ClP.pnew_any c l hc w).mono fun e w' ⟨g, he, hP, hg, hB⟩ => ⟨g, ClP.mutB g (.slice none 0 0), he, ⟨[], _, hP, rfl, rfl⟩, (fun p hp => by
    rcases hp with e | e
    · rw [e]; exact hg
    · cases e), hB⟩
theorem cb_read (H : repCb w g M L h) : Calls Tryz.prog 71 #[MbP.at' g] w fun e w' => e = .returned (.tuple #[.agg (ClP.ceL h).toArray, .int .i64 0]) ∧ Below w.heap.size w w' := by
  obtain ⟨K, v, P, _, _⟩ := H
  exact ClP.pread_any P
end
structure Fq where
  gs : List Nat
  Ms : Nat → Nat → Prop
  Is : Nat → Nat → Prop
  gc : Nat
  Mc : Nat → Prop
  hist : List ClP.Held
  Mo : Nat → Prop
  Io : Nat → Prop
def mutP (F : Fq) (q : Nat) : Prop := F.Mo q ∨ F.Mc q ∨ ∃ i, i < F.gs.length ∧ F.Ms i q
def rdP (F : Fq) (q : Nat) : Prop := F.Io q ∨ ∃ i, i < F.gs.length ∧ F.Is i q
abbrev RepB := World → Nat → List Nat → Nat → (Nat → Prop) → (Nat → Prop) → List Stp → Bool → List BuM.Ent → Prop
structure Pp (repB : RepB) (w : World) (g : Nat) (F : Fq) (k : Nat) (b : Bs) : Prop where
  skel : repB w g F.gs F.gc F.Mo F.Io b.steps b.off b.log
  len : F.gs.length = b.ms.length
  mem : ∀ (i gi : Nat) (st : St), F.gs[i]? = some gi → b.ms[i]? = some st → RepM w gi (F.Ms i) (F.Is i) k st
  ok : okM b.ms ∧ ∀ s ∈ b.steps, okS s
  cel : repCb w F.gc F.Mc F.hist b.c
  olt : ∀ q, F.Mo q ∨ F.Io q → q < w.heap.size
  sep : ∀ q, rdP F q → ¬ mutP F q
  nd : ∀ i j q, i < F.gs.length → j < F.gs.length → F.Ms i q → F.Ms j q → i = j
  mc : ∀ q, F.Mc q → ¬ F.Mo q ∧ ∀ i, i < F.gs.length → ¬ F.Ms i q
  mo : ∀ q, F.Mo q → ∀ i, i < F.gs.length → ¬ F.Ms i q
  sz : b.ms.length ≤ 64 ∧ b.steps.length ≤ 1000 ∧ F.hist.length ≤ k + 1 ∧ b.log.length ≤ k ∧ ∀ s ∈ b.steps, s.picks.length ≤ 140737488351232
  cmx : b.c.1 ≤ ClP.most
def outQ (repB : RepB) (w : World) (g : Nat) (F : Fq) (k : Nat) (b : Bs) (w' : World) : Prop :=
  ∃ F', Pp repB w' g F' k b ∧ F'.gs = F.gs ∧ F'.gc = F.gc ∧ (∀ q, mutP F' q → mutP F q ∨ w.heap.size ≤ q) ∧ (∀ q, rdP F' q → mutP F q ∨ rdP F q ∨ w.heap.size ≤ q) ∧ Turn (mutP F) w w'
structure BusC (repB : RepB) : Prop where
  frame : ∀ {w w' g gs gc Mo Io steps off log} {T : Nat → Prop}, repB w g gs gc Mo Io steps off log → Turn T w w' → (∀ q, Mo q ∨ Io q → ¬ T q) → repB w' g gs gc Mo Io steps off log
  new : ∀ {w : World} {A : Option Addr} {gs : List Nat} {n c gc : Nat} {As : Option Addr} {ns cs : Nat} {steps : List Stp} {sl : List SlB} {S Sp : Nat → Prop} {Ms Is : Nat → Nat → Prop} {Mc : Nat → Prop} {hist : List ClP.Held} {cv : ClP.Held} {k : Nat} {ms : List St},
    Sli 1 ptL S w A gs n c → gs.length = ms.length → (∀ (i gi : Nat) (st : St), gs[i]? = some gi → ms[i]? = some st → RepM w gi (Ms i) (Is i) k st ∧ 1 ≤ st.n) → 1 ≤ n → n ≤ 64 → repCb w gc Mc hist cv →
    Sli 70 stL S w As (steps.zip sl) ns cs → sl.length = steps.length → ns ≤ 1000 → (∀ s x, (s, x) ∈ steps.zip sl → Arg w x.A s.picks s.picks.length x.c ∧ s.picks.length ≤ 140737488351232 ∧ okS s ∧ ∀ q o, 0 < s.picks.length → x.A = some ⟨q, o, none⟩ → Sp q) →
    Calls Tryz.prog 36 #[.slice A n c, MbP.at' gc, .slice As ns cs] w fun e w' => ∃ g Mo Io, e = .returned (.tuple #[MbP.at' g, .int .i64 0]) ∧ repB w' g gs gc Mo Io steps false [] ∧ (∀ q, Mo q → w.heap.size ≤ q) ∧ (∀ q, Io q → w.heap.size ≤ q ∧ q < w'.heap.size ∨ Sp q) ∧ (∀ q, Mo q → q < w'.heap.size ∧ ¬ Io q) ∧ Below w.heap.size w w'
  bad : ∀ {w : World} {A : Option Addr} {gs : List Nat} {n c gc : Nat} {As : Option Addr} {ns cs : Nat} {steps : List Stp} {sl : List SlB} {S : Nat → Prop} {Ms Is : Nat → Nat → Prop} {Mc : Nat → Prop} {hist : List ClP.Held} {cv : ClP.Held} {k : Nat} {ms : List St},
    Sli 1 ptL S w A gs n c → gs.length = ms.length → (∀ (i gi : Nat) (st : St), gs[i]? = some gi → ms[i]? = some st → RepM w gi (Ms i) (Is i) k st ∧ 1 ≤ st.n) → n = 0 ∨ 64 < n → n ≤ 1000 → repCb w gc Mc hist cv →
    Sli 70 stL S w As (steps.zip sl) ns cs → sl.length = steps.length → ns ≤ 1000 →
    Calls Tryz.prog 36 #[.slice A n c, MbP.at' gc, .slice As ns cs] w fun e w' => e = .returned (.tuple #[.pointer none, .int .i64 2]) ∧ Below w.heap.size w w'
  read : ∀ {w g F k b}, Pp repB w g F k b → k + b.steps.length + 2 ≤ 200000 → ∀ m i : Int, Calls Tryz.prog 64 #[MbP.at' g, .int .i64 m, .int .i64 i] w fun e w' => e = .returned (.tuple #[.agg (ar 64 (BuM.rdB (BuM.ahead b) m i).s), .int .i64 (BuM.rdB (BuM.ahead b) m i).e]) ∧ outQ repB w g F (k + b.steps.length + 2) (BuM.rdT b m i) w'
  write : ∀ {w g F k b}, Pp repB w g F k b → k + b.steps.length + 2 ≤ 200000 → ∀ (m i : Int) (x : Nat → Nat), (∀ j, x j < 256) → Calls Tryz.prog 57 #[MbP.at' g, .int .i64 m, .int .i64 i, .agg (ar 64 x)] w fun e w' => e = .returned (.int .i64 (BuM.wrB (BuM.ahead b) m i x).e) ∧ outQ repB w g F (k + b.steps.length + 2) (BuM.wrT b m i x) w'
  flush : ∀ {w g F k b}, Pp repB w g F k b → k + b.steps.length + 2 ≤ 200000 → ∀ m : Int, Calls Tryz.prog 59 #[MbP.at' g, .int .i64 m] w fun e w' => e = .returned (.int .i64 (BuM.flB (BuM.ahead b) m).e) ∧ outQ repB w g F (k + b.steps.length + 2) (BuM.flT b m) w'
  power : ∀ {w g F k b}, Pp repB w g F k b → Calls Tryz.prog 43 #[MbP.at' g] w fun e w' => e = .returned (.int .i64 0) ∧ outQ repB w g F k (BuM.power b) w'
  count : ∀ {w g F k b}, Pp repB w g F k b → Calls Tryz.prog 11 #[MbP.at' g] w fun e w' => e = .returned (.int .i64 (b.log.length : Nat)) ∧ Below w.heap.size w w'
  members : ∀ {w g F k b}, Pp repB w g F k b → Calls Tryz.prog 58 #[MbP.at' g] w fun e w' => e = .returned (.int .i64 (b.ms.length : Nat)) ∧ Below w.heap.size w w'
  log : ∀ {w g F k b}, Pp repB w g F k b → k ≤ 200000 → Calls Tryz.prog 30 #[MbP.at' g] w fun e w' => ∃ v, e = .returned v ∧ OwnX 89 68 enL w' w.heap.size v b.log ∧ Below w.heap.size w w'
section
variable {repB : RepB} {w w' : World} {g k : Nat} {F : Fq} {b : Bs}
theorem Pp.mlt (H : Pp repB w g F k b) : ∀ q, mutP F q → q < w.heap.size := fun q e => by
  rcases e with e | e | ⟨i, hi, e⟩
  · exact H.olt q (.inl e)
  · exact cb_lt H.cel q e
  · exact MbP.memB_ok.lt (H.mem i _ _ (List.getElem?_eq_getElem hi) (List.getElem?_eq_getElem (by rw [← H.len]; exact hi))) q (.inl e)
theorem Pp.ilt (H : Pp repB w g F k b) : ∀ q, rdP F q → q < w.heap.size := fun q e => by
  rcases e with e | ⟨i, hi, e⟩
  · exact H.olt q (.inr e)
  · exact MbP.memB_ok.lt (H.mem i _ _ (List.getElem?_eq_getElem hi) (List.getElem?_eq_getElem (by rw [← H.len]; exact hi))) q (.inr e)
theorem Pp.turn (hC : BusC repB) {T : Nat → Prop} (H : Pp repB w g F k b) (ht : Turn T w w') (hT : ∀ q, mutP F q ∨ rdP F q → ¬ T q) : Pp repB w' g F k b where
  skel := hC.frame H.skel ht fun q e => hT q (e.imp .inl .inl)
  len := H.len
  mem i gi st h1 h2 := MbP.memB_ok.frame (H.mem i gi st h1 h2) ht fun q e => hT q (e.imp (fun x => .inr (.inr ⟨i, (List.getElem?_eq_some_iff.1 h1).1, x⟩)) fun x => .inr ⟨i, (List.getElem?_eq_some_iff.1 h1).1, x⟩)
  ok := H.ok
  cel := cb_turn H.cel ht fun q e => hT q (.inl (.inr (.inl e)))
  olt q e := Nat.lt_of_lt_of_le (H.olt q e) ht.size
  sep := H.sep
  nd := H.nd
  mc := H.mc
  mo := H.mo
  sz := H.sz
  cmx := H.cmx
theorem Pp.below (hC : BusC repB) (H : Pp repB w g F k b) (hb : Below w.heap.size w w') : Pp repB w' g F k b :=
  H.turn hC (Turn.of_new (S := fun _ => False) hb) fun _ _ e => e
end
structure Both (repB : RepB) (B : Nat) (w : World) (g : Nat) (F : Fq) (k : Nat) (r : Nat) (E : Fp) (b : Bs) : Prop where
  prog : Pp repB w g F k b
  ref : Rb w r E k b
  d1 : ∀ q, mutP F q → ¬ (mutR r E q ∨ rdR E q)
  d2 : ∀ q, mutR r E q → ¬ rdP F q
  low : ∀ q, mutP F q ∨ mutR r E q → B ≤ q
  base : B ≤ w.heap.size
structure Went (w : World) (F : Fq) (r : Nat) (E : Fp) (w' : World) (F' : Fq) (E' : Fp) : Prop where
  gs : F'.gs = F.gs
  gc : F'.gc = F.gc
  es : E'.gs = E.gs
  ec : E'.gc = E.gc
  t : Turn (fun q => mutP F q ∨ mutR r E q) w w'
  m : ∀ q, mutP F' q ∨ mutR r E' q → (mutP F q ∨ mutR r E q) ∨ w.heap.size ≤ q
section
variable {repB : RepB} {B : Nat} {w w' w2 : World} {g k k' r : Nat} {F F' F2 : Fq} {E E' E2 : Fp} {b b' : Bs}
theorem Both.below (hC : BusC repB) (H : Both repB B w g F k r E b) (hb : Below w.heap.size w w') : Both repB B w' g F k r E b :=
  ⟨H.prog.below hC hb, H.ref.below hb, H.d1, H.d2, H.low, Nat.le_trans H.base hb.size⟩
theorem Pp.mono (H : Pp repB w g F k b) (hk : k ≤ k') : Pp repB w g F k' b where
  skel := H.skel
  len := H.len
  mem i gi st h1 h2 := MbP.memB_ok.mono (H.mem i gi st h1 h2) hk
  ok := H.ok
  cel := H.cel
  olt := H.olt
  sep := H.sep
  nd := H.nd
  mc := H.mc
  mo := H.mo
  sz := ⟨H.sz.1, H.sz.2.1, Nat.le_trans H.sz.2.2.1 (Nat.succ_le_succ hk), Nat.le_trans H.sz.2.2.2.1 hk, H.sz.2.2.2.2⟩
  cmx := H.cmx
theorem Both.mono (H : Both repB B w g F k r E b) (hk : k ≤ k') : Both repB B w g F k' r E b := ⟨H.prog.mono hk, H.ref.mono hk, H.d1, H.d2, H.low, H.base⟩
theorem Went.refl (w : World) (F : Fq) (r : Nat) (E : Fp) (hb : Below w.heap.size w w') : Went w F r E w' F E := ⟨rfl, rfl, rfl, rfl, Turn.of_new hb, fun _ e => .inl e⟩
theorem Went.trans (h : Went w F r E w' F' E') (h2 : Went w' F' r E' w2 F2 E2) : Went w F r E w2 F2 E2 :=
  ⟨h2.gs.trans h.gs, h2.gc.trans h.gc, h2.es.trans h.es, h2.ec.trans h.ec, h.t.trans h2.t h.m, fun q e => (h2.m q e).elim (h.m q) fun x => .inr (Nat.le_trans h.t.size x)⟩
theorem Both.turned (H : Both repB B w g F k r E b) (h : Went w F r E w' F' E') : Below B w w' := h.t.below H.base H.low
end
end BuP
end Go.Proofs.YtklmjdhhnnanoaaGreatDoor
set_option maxRecDepth 100000
namespace Go.Proofs.YtklmjdhhnnanoaaGreatDoor
open Go.ChangeShapes Go.WideShapes Go.ChangeAt Go.RowKit
attribute [local go_sem] Gives GivesE
namespace BuP
open BuM MbM MbP
structure ActB where
  d : Int
  m : Int
  i : Int
  s : Nat → Nat
  t : Nat → Nat
def abL (a : ActB) : List Value := .int .i64 a.d :: .int .i64 a.m :: .int .i64 a.i :: (ar64 a.s ++ (ar 32 a.t).toList)
section
variable {w : World} {b o : Nat} {a : ActB}
end
def kind7 (D : Int) : Nat := (bits .and .i64 D 7).toNat
def doK (b : Bs) (a : ActB) : Nat → Bs
  | 1 | 2 => BuM.wrT b a.m a.i a.s
  | 3 => BuM.flT b a.m
  | 4 => BuM.ceT b
  | 5 => BuM.adT b a.t
  | 6 => BuM.power b
  | _ => BuM.rdT b a.m a.i
def doB (b : Bs) (a : ActB) : Bs := doK b a (kind7 a.d)
section
variable {ops : Array Oper} {Q : Exit → Act → World → Prop} {a : Act} {w : World} {rest : List Oper} {dst : Option Tmp} {ty r : TypeId} {pos : String} {after : Array Edge} {x y : Operand} {p q : ClP.Held} {f f2 : Nat → Nat}
end
def outD (repB : RepB) (B : Nat) (w : World) (g : Nat) (F : Fq) (r : Nat) (E : Fp) (k : Nat) (b : Bs) (w' : World) : Prop := ∃ F' E', Both repB B w' g F' k r E' b ∧ Went w F r E w' F' E'
theorem outD.below {repB : RepB} {B : Nat} {w w' w2 : World} {g : Nat} {F : Fq} {r : Nat} {E : Fp} {k : Nat} {b : Bs} (hC : BusC repB) (h : outD repB B w g F r E k b w') (hb : Below w'.heap.size w' w2) : outD repB B w g F r E k b w2 := by
  obtain ⟨F', E', h1, h2⟩ := h
  exact ⟨F', E', h1.below hC hb, h2.trans (Went.refl _ _ _ _ hb)⟩
end BuP
end Go.Proofs.YtklmjdhhnnanoaaGreatDoor
set_option maxRecDepth 100000
namespace Go.Proofs.YtklmjdhhnnanoaaGreatDoor
open Go.ChangeShapes Go.WideShapes Go.ChangeAt Go.RowKit
attribute [local go_sem] Gives GivesE
namespace BuP
open BuM MbM MbP
section
variable {ops : Array Oper} {Q : Exit → Act → World → Prop} {a : Act} {w : World} {rest : List Oper} {dst : Option Tmp} {ty r : TypeId} {pos : String} {after : Array Edge} {x y : Operand} {f : Nat → Nat}
end
end BuP
end Go.Proofs.YtklmjdhhnnanoaaGreatDoor
set_option maxRecDepth 100000
namespace Go.Proofs.YtklmjdhhnnanoaaGreatDoor
open Go.ChangeShapes Go.WideShapes Go.ChangeAt Go.RowKit
section
variable {α : Type} {k : Nat} {en : α → List Value} {E L : TypeId}
variable {ops : Array Oper} {Q : Exit → Act → World → Prop} {a : Act} {w : World} {rest : List Oper} {dst : Option Tmp} {ty : TypeId} {pos : String} {after : Array Edge} {o p : Operand} {x y : α} {v u : Value}
end
end Go.Proofs.YtklmjdhhnnanoaaGreatDoor
set_option maxRecDepth 100000
namespace Go.Proofs.YtklmjdhhnnanoaaGreatDoor
open Go.ChangeShapes Go.WideShapes Go.ChangeAt Go.RowKit
attribute [local go_sem] Gives GivesE
namespace BuP
open BuM MbM MbP
def gs1 : Stp := ⟨1, 1, 0, 2, 0, fun _ => 1, []⟩
def gs2 : Stp := ⟨3, 6, 0, 0, 0, fun _ => 0, [0, 1]⟩
section
variable {ops : Array Oper} {Q : Exit → Act → World → Prop} {a : Act} {w : World} {rest : List Oper} {dst : Option Tmp} {ty : TypeId} {pos : String} {after : Array Edge} {x : Operand} {A : Option Addr}
end
end BuP
end Go.Proofs.YtklmjdhhnnanoaaGreatDoor
set_option maxRecDepth 100000
namespace Go.Proofs.YtklmjdhhnnanoaaGreatDoor
open Go.ChangeShapes Go.WideShapes Go.ChangeAt Go.RowKit
attribute [local go_sem] Gives GivesE
namespace BuP
open BuM MbM MbP
theorem undPtP : Tryz.prog.underlying 31 = some (.slice 51) := Tryz.underlying31
def two (steps : List Stp) : Bs := BuM.new [made 4, made 4] (0, ClP.zero) steps
end BuP
end Go.Proofs.YtklmjdhhnnanoaaGreatDoor
set_option maxRecDepth 100000
namespace Go.Proofs.YtklmjdhhnnanoaaGreatDoor
open Go.RowKit
section
variable {P : Program} {ops : Array Oper}
def wpD (P : Program) (ops : Array Oper) (S : Nat → Value → Prop) (C : (Nat → Bool) → (Nat → Value) → World → Prop) (Q : (Nat → Value) → Act → Prop) : Nat → (Nat → Value) → List Oper → Act → Prop
  | _, vs, [], a => Q vs a
  | k, vs, o :: rest, a => ((Region.wanted o (yielded ops a.tmps) = true ∧ ∀ d w, d k = false → (∀ p q, Region.waitsFor .any ops p q = true → d p = true → d q = true) → (∀ j, Region.waitsFor .any ops j k = true → d j = false) → (∀ j, Region.waitsFor .any ops k j = true → d j = true) → C d vs w →
      GivesE P o a w fun v w' => S k v ∧ C (upB d k) (updV vs k v) w') ∨
      (Region.wanted o (yielded ops a.tmps) = false ∧ S k undef ∧ (∀ d w, C d vs w → C (upB d k) (updV vs k undef) w))) ∧ (S k (vs k) → wpD P ops S C Q (k + 1) vs rest (a.put o.dst (vs k)))
end
end Go.Proofs.YtklmjdhhnnanoaaGreatDoor
set_option maxRecDepth 100000
namespace Go.Proofs.YtklmjdhhnnanoaaGreatDoor
namespace BuP
open BuM MbM
def f1 : Nat → Nat := fun _ => 1
def aw0 : Bs := two [gs1, gs2]
def aw1 : Bs := BuM.rdT aw0 0 2
def aw2 : Bs := BuM.rdT aw1 0 2
def aw3 : Bs := BuM.wrT aw2 1 0 f1
def aw4 : Bs := BuM.wrT aw3 1 1 f1
end BuP
end Go.Proofs.YtklmjdhhnnanoaaGreatDoor
set_option maxRecDepth 100000
namespace Go.Proofs.YtklmjdhhnnanoaaGreatDoor
open Go.ChangeShapes Go.WideShapes Go.ChangeAt Go.RowKit
attribute [local go_sem] Gives GivesE
namespace BuP
open BuM MbM MbP
section
variable {a : Act} {w : World} {dst : Option Tmp} {ty T : TypeId} {r : TypeId} {pos : String} {after : Array Edge} {gd : Option (Nat × Bool)} {R : Value → World → Prop} {x y : Operand} {v : Value} {f : Nat → Nat}
end
structure AwS (repB : RepB) (B : Nat) (W : World) (g m1 m2 gX gY k : Nat) (b : Bs) (w' : World) : Prop where
  pp : ∃ F', Pp repB w' g F' k b ∧ F'.gs = [m1, m2] ∧ ∀ q, mutP F' q → B ≤ q ∧ q ≠ gX ∧ q ≠ gY
  bel : Below B W w'
  base : B ≤ w'.heap.size
  x : Blk w' gX 37 (ar 64 fun _ => 0)
  y : Blk w' gY 37 (ar 64 f1)
def stB (a c : Bool) : Bs := if c then aw4 else if a then aw3 else aw2
def stK (a c : Bool) : Nat := if c then 16 else if a then 12 else 8
section
variable {repB : RepB} {B : Nat} {W w' w2 : World} {g m1 m2 gX gY k k2 : Nat} {b b2 : Bs}
theorem AwS.on (hC : BusC repB) (H : AwS repB B W g m1 m2 gX gY k b w') (hb : Below w'.heap.size w' w2) : AwS repB B W g m1 m2 gX gY k b w2 := by
  obtain ⟨F', h1, h2, h3⟩ := H.pp
  exact ⟨⟨F', h1.below hC hb, h2, h3⟩, H.bel.trans (hb.mono H.base), Nat.le_trans H.base hb.size, H.x.below hb H.x.lt, H.y.below hb H.y.lt⟩
end
end BuP
end Go.Proofs.YtklmjdhhnnanoaaGreatDoor
set_option maxRecDepth 100000
namespace Go.Proofs.YtklmjdhhnnanoaaGreatDoor
open Go.ChangeShapes Go.WideShapes Go.ChangeAt Go.RowKit
attribute [local go_sem] Gives GivesE
namespace BuP
open BuM MbM MbP
def seSt (n : Nat) (s : Nat → Nat) : Stp := ⟨n, 1, 0, 3, 0, s, []⟩
def seMb (n : Nat) (s : Nat → Nat) (i : Nat) : St := if i ≤ n then made 4 else MbM.seT (made 4) 3 s
def seB (n : Nat) (s : Nat → Nat) (i : Nat) (L : List BuM.Ent) : Bs := ⟨[seMb n s i, made 4], (0, ClP.zero), [seSt n s], false, L⟩
section
variable {ops : Array Oper} {Q : Exit → Act → World → Prop} {a : Act} {w : World} {rest : List Oper} {dst : Option Tmp} {ty : TypeId} {pos : String} {after : Array Edge} {x y : Operand} {n : Int} {s : Nat → Nat}
end
end BuP
end Go.Proofs.YtklmjdhhnnanoaaGreatDoor
set_option maxRecDepth 100000
namespace Go.Proofs.YtklmjdhhnnanoaaGreatDoor
open Go.ChangeShapes Go.WideShapes Go.ChangeAt Go.RowKit
attribute [local go_sem] Gives GivesE
namespace BuP
open BuM MbM MbP
def ovE (b : Bs) (a : ActB) : Nat → Int
  | 1 | 2 => (BuM.wrB (BuM.ahead b) a.m a.i a.s).e
  | 3 => (BuM.flB (BuM.ahead b) a.m).e
  | 4 => (BuM.ceB (BuM.ahead b)).e
  | 5 => (BuM.adB (BuM.ahead b) a.t).e
  | 6 => 0
  | _ => (BuM.rdB (BuM.ahead b) a.m a.i).e
def ovB (b : Bs) (a : ActB) : Nat → Bs
  | 1 | 2 => BuM.wrT b a.m a.i a.s
  | 3 => BuM.flT b a.m
  | 4 => BuM.ceT b
  | 5 => BuM.adT b a.t
  | 6 => b
  | _ => BuM.rdT b a.m a.i
def outS (repB : RepB) (w : World) (g : Nat) (F : Fq) (k : Nat) (b : Bs) (w' : World) : Prop :=
  ∃ F', Pp repB w' g F' k b ∧ F'.gs = F.gs ∧ (∀ q, mutP F' q → mutP F q ∨ w.heap.size ≤ q) ∧ (∀ q, rdP F' q → mutP F q ∨ rdP F q ∨ w.heap.size ≤ q) ∧ Turn (mutP F) w w'
theorem outS.of {repB : RepB} {w w1 w2 : World} {g k : Nat} {F : Fq} {b : Bs} (hb : Below w.heap.size w w1) (h : outQ repB w1 g F k b w2) : outS repB w g F k b w2 := by
  obtain ⟨F', h1, h2, _, h4, h5, h6⟩ := h
  exact ⟨F', h1, h2, fun q e => (h4 q e).imp id fun x => Nat.le_trans hb.size x, fun q e => (h5 q e).imp id fun y => y.imp id fun x => Nat.le_trans hb.size x, (Turn.of_new (S := mutP F) hb).trans h6 fun q e => .inl e⟩
theorem outS.below {repB : RepB} {w w1 w2 : World} {g k : Nat} {F : Fq} {b : Bs} (hC : BusC repB) (h : outS repB w g F k b w1) (hb : Below w1.heap.size w1 w2) : outS repB w g F k b w2 := by
  obtain ⟨F', h1, h2, h4, h5, h6⟩ := h
  exact ⟨F', h1.below hC hb, h2, h4, h5, h6.trans (Turn.of_new (S := fun _ => False) hb) fun _ e => e.elim⟩
end BuP
end Go.Proofs.YtklmjdhhnnanoaaGreatDoor
set_option maxRecDepth 100000
namespace Go.Proofs.YtklmjdhhnnanoaaGreatDoor
namespace BuP
open BuM MbM
theorem hands_none (now : Nat) : ∀ (l : List Stp) (x : List St × Bool), (∀ s ∈ l, s.a ≠ (now : Int)) → hands now l x = x
  | [], _, _ => rfl
  | s :: l, x, h => by
    rw [hands_cons, show hand now s x = x from if_neg (h s (List.mem_cons_self ..))]
    exact hands_none now l x fun t ht => h t (List.mem_cons_of_mem _ ht)
theorem ahead_none {b : Bs} (h : ∀ s ∈ b.steps, s.a ≠ (b.log.length : Int)) : BuM.ahead b = b := by
  unfold BuM.ahead
  rw [hands_none _ _ _ h]
structure Kept (b b' : Bs) : Prop where
  steps : b'.steps = b.steps
  log : b'.log.length = b.log.length + 1
  off : b'.off = (BuM.ahead b).off
  ms : b'.ms.length = b.ms.length
def ios (l : List ActB) : Nat := l.countP fun a => decide (kind7 a.d ≠ 6)
end BuP
end Go.Proofs.YtklmjdhhnnanoaaGreatDoor
set_option maxRecDepth 100000
namespace Go.Proofs.YtklmjdhhnnanoaaGreatDoor
open Go.ChangeShapes Go.WideShapes Go.ChangeAt Go.RowKit
attribute [local go_sem] Gives GivesE
namespace BuP
open BuM MbM MbP
section
variable {ops : Array Oper} {Q : Exit → Act → World → Prop} {a : Act} {w : World} {rest : List Oper} {dst : Option Tmp} {ty T : TypeId} {pos : String} {after : Array Edge} {x : Operand} {g o : Nat} {cs : Array Value} {gd : Option (Nat × Bool)}
end
def crSt (n : Nat) (picks : List Nat) : Stp := ⟨n, 6, 0, 0, 0, fun _ => 0, picks⟩
section
variable {ops : Array Oper} {Q : Exit → Act → World → Prop} {a : Act} {w : World} {rest : List Oper} {dst : Option Tmp} {ty : TypeId} {pos : String} {after : Array Edge} {x y : Operand} {n : Int} {P : Option Addr} {picks : List Nat} {pc : Nat}
end
structure Alone (repB : RepB) (W w : World) (g m1 m2 : Nat) (F : Fq) (k : Nat) (b : Bs) : Prop where
  pp : Pp repB w g F k b
  gs : F.gs = [m1, m2]
  low : ∀ q, mutP F q → W.heap.size ≤ q
  bel : Below W.heap.size W w
section
variable {repB : RepB} {W w w' : World} {g m1 m2 k k' : Nat} {F : Fq} {b b' : Bs}
theorem Alone.below (hC : BusC repB) (H : Alone repB W w g m1 m2 F k b) (hb : Below w.heap.size w w') : Alone repB W w' g m1 m2 F k b :=
  ⟨H.pp.below hC hb, H.gs, H.low, H.bel.trans (hb.mono H.bel.size)⟩
theorem Alone.out (H : Alone repB W w g m1 m2 F k b) (ho : outS repB w g F k' b' w') : ∃ F', Alone repB W w' g m1 m2 F' k' b' ∧ (∀ q, mutP F' q → mutP F q ∨ w.heap.size ≤ q) ∧ (∀ q, rdP F' q → mutP F q ∨ rdP F q ∨ w.heap.size ≤ q) ∧ Turn (mutP F) w w' := by
  obtain ⟨F', h1, h2, h4, h5, h6⟩ := ho
  exact ⟨F', ⟨h1, h2.trans H.gs, fun q e => (h4 q e).elim (H.low q) fun x => Nat.le_trans H.bel.size x, H.bel.trans (h6.below H.bel.size H.low)⟩, h4, h5, h6⟩
theorem outS.ofQ (h : outQ repB w g F k b w') : outS repB w g F k b w' := outS.of (Below.refl _ _) h
end
end BuP
end Go.Proofs.YtklmjdhhnnanoaaGreatDoor
set_option maxRecDepth 100000
namespace Go.Proofs.YtklmjdhhnnanoaaGreatDoor
open Go.ChangeShapes Go.WideShapes Go.ChangeAt Go.RowKit Go.Deep
theorem choose_lt {α : Type} [Inhabited α] {n : Nat} {P : Nat → α → Prop} (h : ∀ k, k < n → ∃ a, P k a) : ∃ f : Nat → α, ∀ k, k < n → P k (f k) :=
  ⟨fun k => if hk : k < n then (h k hk).choose else default, fun k hk => by simp only [hk, dif_pos]; exact (h k hk).choose_spec⟩
theorem u8_wf {a : Int} (h : (Lit.int .u8 a).wf = true) : ∃ n : Nat, a = n ∧ n < 256 := by
  simp [Lit.wf, IntKind.min, IntKind.max, IntKind.bits, IntKind.signed] at h
  exact ⟨a.toNat, by omega, by omega⟩
theorem cells_u8 : Tryz.prog.cellsOf 5 = 1 := by kernel_rfl
end Go.Proofs.YtklmjdhhnnanoaaGreatDoor
set_option maxRecDepth 100000
namespace Go.Proofs.YtklmjdhhnnanoaaGreatDoor
open Go.ChangeShapes Go.WideShapes Go.ChangeAt Go.RowKit Go.Deep
section
variable {H : Type} {enc : TypeId × Value → H} {w : World} {base : Nat} {spare : Nat → Bool} {held : Bool}
theorem trod_ar {T : TypeId} {n : Nat} (hT : Tryz.prog.underlying T = some (.array n 5)) (hc : Tryz.prog.cellsOf T = n) {fuel : Nat} {cs : List Value} {x : DataW H × List MemPlace} (h : DataW.trod enc Tryz.prog w base spare held fuel T cs = some x) : ∃ f : Nat → Nat, (∀ k, f k < 256) ∧ cs = (ar n f).toList := by
  obtain ⟨xs, m, rfl, rfl, hlen, hxl, hx⟩ := DataW.trod_array hT h
  rw [hc] at hlen
  have hk : ∀ k, k < n → ∃ n : Nat, n < 256 ∧ cs[k]? = some (.int .u8 n) := fun k hk => by
    have h1 := hx k hk
    rw [cells_u8, Nat.mul_one, List.getElem?_eq_getElem (by omega)] at h1
    obtain ⟨n, e1, e2, wf⟩ := DataW.trod_int Tryz.underlying5 h1
    obtain ⟨n, rfl, hn⟩ := u8_wf wf
    refine ⟨n, hn, ?_⟩
    have : ((cs.drop k).take 1)[0]? = some (.int .u8 n) := by rw [e1]; rfl
    rw [List.getElem?_take_of_lt (by omega), List.getElem?_drop] at this
    exact this
  obtain ⟨f, hf⟩ := choose_lt hk
  refine ⟨fun k => if k < n then f k else 0, fun k => ?_, ?_⟩
  · by_cases h : k < n
    · simp only [h, if_true]; exact (hf k h).1
    · simp [h]
  · apply List.ext_getElem?
    intro k
    have e : (ar n fun k => if k < n then f k else 0).toList[k]? = if k < n then some (.int .u8 ((if k < n then f k else 0 : Nat) : Int)) else none := by
      rw [Array.getElem?_toList]
      exact get_row k
    rw [e]
    by_cases h : k < n
    · rw [if_pos h, if_pos h]; exact (hf k h).2
    · rw [if_neg h, List.getElem?_eq_none (by omega)]
set_option maxRecDepth 100000 in
theorem open_ar {T : TypeId} {n : Nat} (hT : Tryz.prog.underlying T = some (.array n 5)) (hc : Tryz.prog.cellsOf T = n) {r : Reach} {b0 : Nat} {v : Value} {d : DataW H} {p : List MemPlace} (hv : Value.okWide Tryz.prog w r b0 T v) (h : DataW.Trod enc Tryz.prog w base spare held T v d p) :
    ∃ f : Nat → Nat, (∀ k, f k < 256) ∧ v = .agg (ar n f) := by
  have hv' : ∃ cs, v = .agg cs := by
    simp only [Value.okWide, hT] at hv
    obtain ⟨cs, h1, _⟩ := hv
    exact ⟨cs, h1⟩
  obtain ⟨cs, rfl⟩ := hv'
  obtain ⟨fuel, hf⟩ := h
  obtain ⟨f, h1, h2⟩ := trod_ar hT hc hf
  refine ⟨f, h1, ?_⟩
  have : cs = ar n f := by
    apply Array.ext'
    exact h2
  rw [this]
end
end Go.Proofs.YtklmjdhhnnanoaaGreatDoor
set_option maxRecDepth 100000
namespace Go.Proofs.YtklmjdhhnnanoaaGreatDoor
open Go.ChangeShapes Go.WideShapes Go.ChangeAt Go.RowKit Go.Deep
section
variable {H : Type} {enc : TypeId × Value → H} {w : World} {base : Nat} {spare : Nat → Bool} {held : Bool}
end
end Go.Proofs.YtklmjdhhnnanoaaGreatDoor
set_option maxRecDepth 100000
namespace Go.Proofs.YtklmjdhhnnanoaaGreatDoor
open Go.ChangeShapes Go.WideShapes Go.ChangeAt Go.RowKit Go.Deep
def PrtsN (w : World) (B : Nat) (A : Option Addr) (ls : List (List Nat)) : Prop :=
  0 < ls.length → ∃ b o, A = some ⟨b, o, none⟩ ∧ b < B ∧ ∀ i, i < ls.length → ∃ A' c, w.cell? ⟨b, o + i, none⟩ = some (.slice A' (ls.getD i []).length c) ∧ (ls.getD i []).length ≤ c ∧ c ≤ maxLen ∧ Byt w B A' (ls.getD i []) ∧ (A' = none → (ls.getD i []).length = 0 ∧ c = 0)
theorem PrtsN.below {B B' : Nat} {w w' : World} {A : Option Addr} {ls : List (List Nat)} (h : PrtsN w B A ls) (hb : Below B' w w') (hB : B ≤ B') : PrtsN w' B A ls := fun hn => by
  obtain ⟨b, o, rfl, hl, hr⟩ := h hn
  refine ⟨b, o, rfl, hl, fun i hi => ?_⟩
  obtain ⟨A', c, h1, h2, h3, h4, h5⟩ := hr i hi
  exact ⟨A', c, (hb.cell (p := ⟨b, o + i, none⟩) (by show b < B'; omega)).trans h1, h2, h3, h4.below hb hB, h5⟩
theorem PrtsN.more {w : World} {B B' : Nat} {A : Option Addr} {ls : List (List Nat)} (h : PrtsN w B A ls) (hB : B ≤ B') : PrtsN w B' A ls := fun hn => by
  obtain ⟨b, o, rfl, hl, hr⟩ := h hn
  refine ⟨b, o, rfl, by omega, fun i hi => ?_⟩
  obtain ⟨A', c, h1, h2, h3, h4, h5⟩ := hr i hi
  exact ⟨A', c, h1, h2, h3, h4.more hB, h5⟩
section
variable {H : Type} {enc : TypeId × Value → H} {w : World} {base : Nat} {spare : Nat → Bool} {held : Bool}
end
end Go.Proofs.YtklmjdhhnnanoaaGreatDoor
set_option maxRecDepth 100000
namespace Go.Proofs.YtklmjdhhnnanoaaGreatDoor
open Go.ChangeShapes Go.WideShapes Go.ChangeAt Go.RowKit Go.Deep
def Elems (k : Nat) (w : World) (B : Nat) (A : Option Addr) (xs : List (List Value)) : Prop :=
  0 < xs.length → ∃ b o, A = some ⟨b, o, none⟩ ∧ b < B ∧ ∀ (i : Nat) (cs : List Value), xs[i]? = some cs → ∀ (j : Nat) (v : Value), cs[j]? = some v → w.cell? ⟨b, o + i * k + j, none⟩ = some v
theorem Elems.below {k B B' : Nat} {w w' : World} {A : Option Addr} {xs : List (List Value)} (h : Elems k w B A xs) (hb : Below B' w w') (hB : B ≤ B') : Elems k w' B A xs := fun hn => by
  obtain ⟨b, o, rfl, hl, hr⟩ := h hn
  exact ⟨b, o, rfl, hl, fun i cs hi j v hj => (hb.cell (p := ⟨b, o + i * k + j, none⟩) (by show b < B'; omega)).trans (hr i cs hi j v hj)⟩
section
variable {H : Type} {enc : TypeId × Value → H} {w : World} {base : Nat} {spare : Nat → Bool} {held : Bool}
end
end Go.Proofs.YtklmjdhhnnanoaaGreatDoor
set_option maxRecDepth 100000
namespace Go.Proofs.YtklmjdhhnnanoaaGreatDoor
open Go.ChangeShapes Go.WideShapes Go.ChangeAt Go.RowKit Go.Deep
namespace BuP
open MbP
section
variable {H : Type} {enc : TypeId × Value → H} {w : World} {base : Nat} {spare : Nat → Bool} {held : Bool}
end
end BuP
end Go.Proofs.YtklmjdhhnnanoaaGreatDoor
set_option maxRecDepth 100000
namespace Go.Proofs.YtklmjdhhnnanoaaGreatDoor
open Go.ChangeShapes Go.WideShapes Go.ChangeAt Go.RowKit Go.Deep
namespace BuP
open MbP BuM
section
variable {H : Type} {enc : TypeId × Value → H} {w : World} {base : Nat} {spare : Nat → Bool} {held : Bool}
structure StOk (w : World) (y : Stp × SlB) : Prop where
  ok : okS y.1
  arg : Arg w y.2.A y.1.picks y.1.picks.length y.2.c
  few : y.1.picks.length ≤ 140737488351232
  old : ∀ q o, 0 < y.1.picks.length → y.2.A = some ⟨q, o, none⟩ → q < w.heap.size
instance : Inhabited (Stp × SlB) := ⟨st0⟩
end
end BuP
end Go.Proofs.YtklmjdhhnnanoaaGreatDoor
