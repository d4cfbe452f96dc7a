/-
  A bus of the program's, of which one part is turned: a member, the cell, its own blocks.
  Maps of slices by whole numbers: a block that reads as a function of the number; looked up, put, struck out.
  The program's calls of members that New did not make: of none, and of a block of zeros.
  The landed bus in memory; the calls that turn nothing of it, or one cell.
  The type of slices of bytes; bytes out of a literal.
  append of bytes, as many as a memory holds.
  The landed bus: Members, Count, Off, Power, Sectors, Log; the crash.
  A slice of bytes cut out of another one: as an operation of the walk that leaves one address, whatever it is.
  The landed bus: the crash.
  The landed bus: what each kind of step does.
  The landed bus: the steps ahead of an I/O.
  The landed bus: doSteps.
-/
import Derived.Test.YtklmjdhhnnanoaaGreatDoorMrg6
import Derived.Lib.SliceRun
set_option linter.unusedVariables false
set_option linter.unusedSimpArgs false
set_option maxRecDepth 100000
namespace Go.Proofs.YtklmjdhhnnanoaaGreatDoor
open Go.ChangeShapes Go.WideShapes Go.ChangeAt Go.RowKit
attribute [local go_sem] Gives GivesE
namespace BuP
open BuM MbM MbP
section
variable {repB : RepB} {w w' w2 : World} {g k k' k2 : Nat} {F : Fq} {b b2 : Bs}
theorem Pp.own {repB2 : RepB} (H : Pp repB w g F k b) {Mo' : Nat → Prop} {off' : Bool} {log' : List BuM.Ent} (hs : repB2 w' g F.gs F.gc Mo' F.Io b.steps off' log') (ht : Turn F.Mo w w') (hM : ∀ q, Mo' q → F.Mo q ∨ w.heap.size ≤ q) (hlt : ∀ q, Mo' q → q < w'.heap.size) (hk : k ≤ k') (hl : log'.length ≤ k') :
    outQ repB2 w g F k' { b with off := off', log := log' } w' := by
  refine ⟨{ F with Mo := Mo' }, ⟨hs, H.len, fun i gi st h1 h2 => ?_, H.ok, ?_, fun q e => ?_, fun q e x => ?_, H.nd, fun q e => ⟨fun x => ?_, (H.mc q e).2⟩, fun q e i hi x => ?_, ⟨H.sz.1, H.sz.2.1, Nat.le_trans H.sz.2.2.1 (Nat.succ_le_succ hk), hl, H.sz.2.2.2.2⟩, H.cmx⟩, rfl, rfl, fun q e => ?_, fun q e => .inr (.inl e), ht.mono fun q e => .inl e⟩
  · have hi := (List.getElem?_eq_some_iff.1 h1).1
    exact MbP.memB_ok.mono (MbP.memB_ok.frame (H.mem i gi st h1 h2) ht fun q e x => e.elim (H.mo q x i hi) fun y => H.sep q (.inr ⟨i, hi, y⟩) (.inl x)) hk
  · exact cb_turn H.cel ht fun q e x => (H.mc q e).1 x
  · exact e.elim (hlt q) fun x => Nat.lt_of_lt_of_le (H.olt q (.inr x)) ht.size
  · rcases x with x | x
    · rcases hM q x with y | y
      · exact H.sep q e (.inl y)
      · have := H.ilt q e; omega
    · exact H.sep q e (.inr x)
  · rcases hM q x with y | y
    · exact (H.mc q e).1 y
    · have := cb_lt H.cel q e; omega
  · rcases hM q e with y | y
    · exact H.mo q y i hi x
    · have := H.mlt q (.inr (.inr ⟨i, hi, x⟩)); omega
  · rcases e with e | e
    · exact (hM q e).imp .inl id
    · exact .inl (.inr e)
theorem Pp.put (hfr : ∀ {w w' g gs gc Mo Io steps off log} {T : Nat → Prop}, repB w g gs gc Mo Io steps off log → Turn T w w' → (∀ q, Mo q ∨ Io q → ¬ T q) → repB w' g gs gc Mo Io steps off log)
    (H : Pp repB w g F k b) {i gi : Nat} {st' : St} (hgi : F.gs[i]? = some gi) (ho : outP RepM w gi (F.Ms i) (F.Is i) k' st' w') (hk : k ≤ k') (hok : st'.ok) :
    outQ repB w g F k' { b with ms := b.ms.set i st' } w' := by
  obtain ⟨M', I', h1, h2, h3, h4⟩ := ho
  have hi := (List.getElem?_eq_some_iff.1 hgi).1
  have hib : i < b.ms.length := by rw [← H.len]; exact hi
  have hown := MbP.memB_ok.own h1
  have hlt1 := MbP.memB_ok.lt h1
  refine ⟨{ F with Ms := fun j => if j = i then M' else F.Ms j, Is := fun j => if j = i then I' else F.Is j }, ⟨?_, ?_, fun j gj st e1 e2 => ?_, ⟨set_ok H.ok.1 _ hok, H.ok.2⟩, ?_, fun q e => ?_, fun q e x => ?_, fun j l q hj hl e x => ?_, fun q e => ⟨(H.mc q e).1, fun j hj x => ?_⟩, fun q e j hj x => ?_, ⟨by show (b.ms.set i st').length ≤ 64; rw [List.length_set]; exact H.sz.1, H.sz.2.1, Nat.le_trans H.sz.2.2.1 (Nat.succ_le_succ hk), Nat.le_trans H.sz.2.2.2.1 hk, H.sz.2.2.2.2⟩, H.cmx⟩, rfl, rfl, fun q e => ?_, fun q e => ?_, h4.mono fun q e => .inr (.inr ⟨i, hi, e⟩)⟩
  · exact hfr H.skel h4 fun q e x => e.elim (fun y => H.mo q y i hi x) fun y => H.sep q (.inl y) (.inr (.inr ⟨i, hi, x⟩))
  · show F.gs.length = (b.ms.set i st').length
    rw [List.length_set]; exact H.len
  · by_cases e : j = i
    · subst e
      have e1' : F.gs[j]? = some gj := e1
      rw [hgi] at e1'
      cases e1'
      have e2' : (b.ms.set j st')[j]? = some st := e2
      rw [List.getElem?_set_self hib] at e2'
      cases e2'
      show RepM w' gi (if j = j then M' else F.Ms j) (if j = j then I' else F.Is j) k' st'
      rw [if_pos rfl, if_pos rfl]
      exact h1
    · have e2' : (b.ms.set i st')[j]? = some st := e2
      rw [List.getElem?_set_ne (Ne.symm e)] at e2'
      show RepM w' gj (if j = i then M' else F.Ms j) (if j = i then I' else F.Is j) k' st
      rw [if_neg e, if_neg e]
      have hj := (List.getElem?_eq_some_iff.1 e1).1
      exact MbP.memB_ok.mono (MbP.memB_ok.frame (H.mem j gj st e1 e2') h4 fun q y x => y.elim (fun z => e (H.nd j i q hj hi z x)) fun z => H.sep q (.inr ⟨j, hj, z⟩) (.inr (.inr ⟨i, hi, x⟩))) hk
  · exact cb_turn H.cel h4 fun q e x => (H.mc q e).2 i hi x
  · exact Nat.lt_of_lt_of_le (H.olt q e) h4.size
  · -- what is read is not turned
    have hx : mutP F q ∨ w.heap.size ≤ q := by
      rcases x with x | x | ⟨j, hj, x⟩
      · exact .inl (.inl x)
      · exact .inl (.inr (.inl x))
      · by_cases ej : j = i
        · subst ej
          have x' : (if j = j then M' else F.Ms j) q := x
          rw [if_pos rfl] at x'
          exact (h2 q x').imp (fun y => .inr (.inr ⟨j, hj, y⟩)) id
        · have x' : (if j = i then M' else F.Ms j) q := x
          rw [if_neg ej] at x'
          exact .inl (.inr (.inr ⟨j, hj, x'⟩))
    rcases e with e | ⟨j, hj, e⟩
    · rcases hx with y | y
      · exact H.sep q (.inl e) y
      · have := H.olt q (.inr e); omega
    · by_cases ej : j = i
      · subst ej
        have e' : (if j = j then I' else F.Is j) q := e
        rw [if_pos rfl] at e'
        have hM' : ¬ M' q := fun z => hown q z e'
        have hq : F.Ms j q ∨ F.Is j q ∨ w.heap.size ≤ q := h3 q e'
        rcases x with x | x | ⟨l, hl, x⟩
        · rcases hq with y | y | y
          · exact H.mo q x j hj y
          · exact H.sep q (.inr ⟨j, hj, y⟩) (.inl x)
          · have := H.olt q (.inl x); omega
        · rcases hq with y | y | y
          · exact (H.mc q x).2 j hj y
          · exact H.sep q (.inr ⟨j, hj, y⟩) (.inr (.inl x))
          · have := cb_lt H.cel q x; omega
        · by_cases el : l = j
          · subst el
            have x' : (if l = l then M' else F.Ms l) q := x
            rw [if_pos rfl] at x'
            exact hM' x'
          · have x' : (if l = j then M' else F.Ms l) q := x
            rw [if_neg el] at x'
            rcases hq with y | y | y
            · exact el (H.nd l j q hl hj x' y)
            · exact H.sep q (.inr ⟨j, hj, y⟩) (.inr (.inr ⟨l, hl, x'⟩))
            · have := H.mlt q (.inr (.inr ⟨l, hl, x'⟩)); omega
      · have e' : (if j = i then I' else F.Is j) q := e
        rw [if_neg ej] at e'
        rcases hx with y | y
        · exact H.sep q (.inr ⟨j, hj, e'⟩) y
        · have := H.ilt q (.inr ⟨j, hj, e'⟩); omega
  · have e' : (if j = i then M' else F.Ms j) q := e
    have x' : (if l = i then M' else F.Ms l) q := x
    by_cases ej : j = i
    · by_cases el : l = i
      · rw [ej, el]
      · rw [if_pos ej] at e'
        rw [if_neg el] at x'
        rcases h2 q e' with y | y
        · exact absurd (H.nd l i q hl hi x' y) el
        · have := H.mlt q (.inr (.inr ⟨l, hl, x'⟩)); omega
    · rw [if_neg ej] at e'
      by_cases el : l = i
      · rw [if_pos el] at x'
        rcases h2 q x' with y | y
        · exact absurd (H.nd j i q hj hi e' y) ej
        · have := H.mlt q (.inr (.inr ⟨j, hj, e'⟩)); omega
      · rw [if_neg el] at x'
        exact H.nd j l q hj hl e' x'
  · have x' : (if j = i then M' else F.Ms j) q := x
    by_cases ej : j = i
    · rw [if_pos ej] at x'
      rcases h2 q x' with y | y
      · exact (H.mc q e).2 i hi y
      · have := cb_lt H.cel q e; omega
    · rw [if_neg ej] at x'
      exact (H.mc q e).2 j hj x'
  · have x' : (if j = i then M' else F.Ms j) q := x
    by_cases ej : j = i
    · rw [if_pos ej] at x'
      rcases h2 q x' with y | y
      · exact H.mo q e i hi y
      · have := H.olt q (.inl e); omega
    · rw [if_neg ej] at x'
      exact H.mo q e j hj x'
  · rcases e with e | e | ⟨j, hj, e⟩
    · exact .inl (.inl e)
    · exact .inl (.inr (.inl e))
    · have e' : (if j = i then M' else F.Ms j) q := e
      by_cases ej : j = i
      · rw [if_pos ej] at e'
        exact (h2 q e').imp (fun y => .inr (.inr ⟨i, hi, y⟩)) id
      · rw [if_neg ej] at e'
        exact .inl (.inr (.inr ⟨j, hj, e'⟩))
  · rcases e with e | ⟨j, hj, e⟩
    · exact .inr (.inl (.inl e))
    · have e' : (if j = i then I' else F.Is j) q := e
      by_cases ej : j = i
      · rw [if_pos ej] at e'
        rcases h3 q e' with y | y | y
        · exact .inl (.inr (.inr ⟨i, hi, y⟩))
        · exact .inr (.inl (.inr ⟨i, hi, y⟩))
        · exact .inr (.inr y)
      · rw [if_neg ej] at e'
        exact .inr (.inl (.inr ⟨j, hj, e'⟩))
theorem outQ.mono (h : outQ repB w g F k b w') (hk : k ≤ k') : outQ repB w g F k' b w' := by
  obtain ⟨F', h1, h2⟩ := h
  exact ⟨F', h1.mono hk, h2⟩
theorem outQ.trans {F' : Fq} (hg : F'.gs = F.gs) (hc : F'.gc = F.gc) (hm : ∀ q, mutP F' q → mutP F q ∨ w.heap.size ≤ q) (hr : ∀ q, rdP F' q → mutP F q ∨ rdP F q ∨ w.heap.size ≤ q) (ht : Turn (mutP F) w w') (h : outQ repB w' g F' k2 b2 w2) : outQ repB w g F k2 b2 w2 := by
  obtain ⟨F2, h1, h2, h3, h4, h5, h6⟩ := h
  refine ⟨F2, h1, h2.trans hg, h3.trans hc, fun q e => ?_, fun q e => ?_, ht.trans h6 hm⟩
  · rcases h4 q e with y | y
    · exact hm q y
    · exact .inr (Nat.le_trans ht.size y)
  · rcases h5 q e with y | y | y
    · exact (hm q y).imp id .inr
    · exact hr q y
    · exact .inr (.inr (Nat.le_trans ht.size y))
theorem outQ.on (hfr : ∀ {w w' g gs gc Mo Io steps off log} {T : Nat → Prop}, repB w g gs gc Mo Io steps off log → Turn T w w' → (∀ q, Mo q ∨ Io q → ¬ T q) → repB w' g gs gc Mo Io steps off log)
    (H : Pp repB w g F k b) {T : Nat → Prop} (ht : Turn T w w') (hT : ∀ q, mutP F q ∨ rdP F q → ¬ T q) : Pp repB w' g F k b where
  skel := hfr H.skel ht fun q e => hT q (e.imp .inl .inl)
  len := H.len
  mem i gi st h1 h2 := MbP.memB_ok.frame (H.mem i gi st h1 h2) ht fun q e => hT q (e.imp (fun x => .inr (.inr ⟨i, (List.getElem?_eq_some_iff.1 h1).1, x⟩)) fun x => .inr ⟨i, (List.getElem?_eq_some_iff.1 h1).1, x⟩)
  ok := H.ok
  cel := cb_turn H.cel ht fun q e => hT q (.inl (.inr (.inl e)))
  olt q e := Nat.lt_of_lt_of_le (H.olt q e) ht.size
  sep := H.sep
  nd := H.nd
  mc := H.mc
  mo := H.mo
  sz := H.sz
  cmx := H.cmx
end
end BuP
end Go.Proofs.YtklmjdhhnnanoaaGreatDoor
set_option maxRecDepth 100000
namespace Go.Proofs.YtklmjdhhnnanoaaGreatDoor
open Go.ChangeShapes Go.WideShapes Go.ChangeAt Go.RowKit
attribute [local go_sem] Gives
namespace MpV
abbrev Ent := Int × Value
abbrev zero : Value := .slice none 0 0
abbrev Img := Int → Value
def upd (F : Img) (i : Int) (s : Value) : Img := fun j => if j = i then s else F j
def look : List Ent → Int → Nat → Option (Nat × Value)
  | [], _, _ => none
  | p :: l, i, n => if p.1 = i then some (n, p.2) else look l i (n + 1)
def putE : List Ent → Int → Value → List Ent
  | [], i, s => [(i, s)]
  | p :: l, i, s => if p.1 = i then (i, s) :: l else p :: putE l i s
def delE : List Ent → Int → List Ent
  | [], _ => []
  | p :: l, i => if p.1 = i then l else p :: delE l i
def getE : List Ent → Int → Value
  | [], _ => zero
  | p :: l, i => if p.1 = i then p.2 else getE l i
theorem look_get (i : Int) : ∀ (l : List Ent) (n : Nat), ((look l i n).map (·.2)).getD zero = getE l i
  | [], n => rfl
  | p :: l, n => by
    unfold look getE
    split
    · rfl
    · exact look_get i l (n + 1)
theorem look_some {i : Int} : ∀ {l : List Ent} {n : Nat} {q : Nat × Value}, look l i n = some q → ∃ d, q.1 = n + d ∧ l[d]? = some (i, q.2) ∧ (∀ s, l.set d (i, s) = putE l i s) ∧ l.eraseIdx d = delE l i
  | [], n, q, h => by cases h
  | p :: l, n, q, h => by
    unfold look at h
    by_cases e : p.1 = i
    · rw [if_pos e] at h
      cases h
      refine ⟨0, rfl, ?_, fun s => ?_, ?_⟩
      · show some p = _; rw [← e]
      · show _ :: _ = _; unfold putE; rw [if_pos e]
      · show l = _; unfold delE; rw [if_pos e]
    · rw [if_neg e] at h
      obtain ⟨d, h1, h2, h3, h4⟩ := look_some h
      refine ⟨d + 1, by omega, h2, fun s => ?_, ?_⟩
      · rw [List.set_cons_succ, h3, putE, if_neg e]
      · rw [List.eraseIdx_cons_succ, h4, delE, if_neg e]
theorem look_none {i : Int} : ∀ {l : List Ent} {n : Nat}, look l i n = none → (∀ s, putE l i s = l ++ [(i, s)]) ∧ delE l i = l
  | [], n, h => ⟨fun s => rfl, rfl⟩
  | p :: l, n, h => by
    unfold look at h
    by_cases e : p.1 = i
    · rw [if_pos e] at h; cases h
    · rw [if_neg e] at h
      obtain ⟨h1, h2⟩ := look_none h
      exact ⟨fun s => by rw [putE, if_neg e, h1]; rfl, by rw [delE, if_neg e, h2]⟩
theorem get_put (i : Int) (s : Value) (j : Int) : ∀ l : List Ent, getE (putE l i s) j = if j = i then s else getE l j
  | [] => by
    unfold putE getE getE
    by_cases e : j = i
    · rw [if_pos e.symm, if_pos e]
    · rw [if_neg fun h => e h.symm, if_neg e]
  | p :: l => by
    unfold putE
    by_cases e : p.1 = i
    · rw [if_pos e]
      unfold getE
      by_cases h : j = i
      · rw [if_pos h.symm, if_pos h]
      · rw [if_neg fun x => h x.symm, if_neg h, if_neg fun x => h (x.symm.trans e)]
    · rw [if_neg e]
      unfold getE
      by_cases h : p.1 = j
      · rw [if_pos h, if_pos h, if_neg fun x => e (h.trans x)]
      · rw [if_neg h, if_neg h]; exact get_put i s j l
theorem get_out {i : Int} : ∀ {l : List Ent}, i ∉ l.map (·.1) → getE l i = zero
  | [], _ => rfl
  | p :: l, h => by
    rw [List.map_cons, List.mem_cons, not_or] at h
    unfold getE
    rw [if_neg fun e => h.1 e.symm]
    exact get_out h.2
theorem get_del (i j : Int) : ∀ l : List Ent, (l.map (·.1)).Nodup → getE (delE l i) j = if j = i then zero else getE l j
  | [], _ => by unfold delE getE; split <;> rfl
  | p :: l, h => by
    rw [List.map_cons, List.nodup_cons] at h
    unfold delE
    by_cases e : p.1 = i
    · rw [if_pos e]
      by_cases hj : j = i
      · rw [if_pos hj, hj]; exact get_out (e ▸ h.1)
      · rw [if_neg hj]
        conv => rhs; unfold getE
        rw [if_neg fun x => hj (x.symm.trans e)]
    · rw [if_neg e]
      unfold getE
      by_cases hp : p.1 = j
      · rw [if_pos hp, if_pos hp, if_neg fun x => e (hp.trans x)]
      · rw [if_neg hp, if_neg hp]; exact get_del i j l h.2
theorem del_sub (i : Int) : ∀ l : List Ent, (delE l i).Sublist l
  | [] => List.Sublist.refl _
  | p :: l => by
    unfold delE
    split
    · exact List.sublist_cons_self p l
    · exact (del_sub i l).cons_cons p
theorem nodup_del {i : Int} {l : List Ent} (h : (l.map (·.1)).Nodup) : ((delE l i).map (·.1)).Nodup := List.Nodup.sublist ((del_sub i l).map _) h
theorem mem_put {i k : Int} {s : Value} : ∀ {l : List Ent}, k ∈ (putE l i s).map (·.1) → k = i ∨ k ∈ l.map (·.1)
  | [], h => by simpa [putE] using h
  | p :: l, h => by
    unfold putE at h
    by_cases e : p.1 = i
    · rw [if_pos e, List.map_cons, List.mem_cons] at h
      exact h.imp id fun x => List.mem_cons_of_mem _ x
    · rw [if_neg e, List.map_cons, List.mem_cons] at h
      rcases h with h | h
      · exact .inr (by rw [List.map_cons, h]; exact List.mem_cons_self)
      · exact (mem_put h).imp id fun x => List.mem_cons_of_mem _ x
theorem nodup_put {i : Int} {s : Value} : ∀ {l : List Ent}, (l.map (·.1)).Nodup → ((putE l i s).map (·.1)).Nodup
  | [], _ => by simp [putE]
  | p :: l, h => by
    rw [List.map_cons, List.nodup_cons] at h
    unfold putE
    by_cases e : p.1 = i
    · rw [if_pos e, List.map_cons, List.nodup_cons]
      exact ⟨e ▸ h.1, h.2⟩
    · rw [if_neg e, List.map_cons, List.nodup_cons]
      exact ⟨fun x => (mem_put x).elim e h.1, nodup_put h.2⟩
def kvE (e : MapEntry) : Value × Value := (e.key, e.val)
def kvP (p : Ent) : Value × Value := (.int .i64 p.1, p.2)
theorem find_now (i : Int) : ∀ (es : List MapEntry) (l : List Ent) (n : Nat), es.map kvE = l.map kvP → Instr.findNow (.int .i64) (.int .i64 i) es n = some ((look l i n).map fun q => (q.1, q.2))
  | [], [], n, _ => rfl
  | [], _ :: _, n, h => by simp at h
  | _ :: _, [], n, h => by simp at h
  | e :: es, p :: l, n, h => by
    simp only [List.map_cons, List.cons.injEq] at h
    obtain ⟨h1, h2⟩ := h
    have hk : e.key = .int .i64 p.1 := congrArg Prod.fst h1
    have hv : e.val = p.2 := congrArg Prod.snd h1
    unfold Instr.findNow look
    rw [hk, hv]
    by_cases e' : p.1 = i
    · simp [Instr.sameNow, e']
    · have : (i == p.1) = false := by simp; exact fun h => e' h.symm
      simp only [Instr.sameNow, this, if_neg e', if_true]
      exact find_now i es l (n + 1) h2
def MapV (w : World) (r : Nat) (F : Img) : Prop := ∃ es clock l, w.heap[r]? = some (.map es clock) ∧ es.toList.map kvE = l.map kvP ∧ (l.map (·.1)).Nodup ∧ ∀ i, getE l i = F i
section
variable {w w' : World} {r : Nat} {F G : Img} {T : Nat → Prop}
theorem MapV.lt (h : MapV w r F) : r < w.heap.size := by
  obtain ⟨es, c, l, h1, _⟩ := h
  exact (Array.getElem?_eq_some_iff.1 h1).1
theorem MapV.turn (h : MapV w r F) (ht : Turn T w w') (hr : ¬ T r) : MapV w' r F := by
  have hl := h.lt
  obtain ⟨es, c, l, h1, h2⟩ := h
  exact ⟨es, c, l, (ht.block r hl hr).trans h1, h2⟩
theorem MapV.below (h : MapV w r F) (hb : Below w.heap.size w w') : MapV w' r F := h.turn (Turn.of_below hb) (by have := h.lt; omega)
theorem MapV.congr (h : MapV w r F) (e : ∀ i, F i = G i) : MapV w r G := by
  obtain ⟨es, c, l, h1, h2, h3, h4⟩ := h
  exact ⟨es, c, l, h1, h2, h3, fun i => (h4 i).trans (e i)⟩
theorem MapV.new (w : World) : MapV (w.alloc (.map #[] 0)) w.heap.size fun _ => zero := ⟨#[], 0, [], heap_alloc_new w _, rfl, List.nodup_nil, fun _ => rfl⟩
theorem MapV.twin (h : MapV w r F) : ∃ es clock, w.heap[r]? = some (.map es clock) ∧ ∀ w' r', w'.heap[r']? = some (.map es clock) → MapV w' r' F := by
  obtain ⟨es, c, l, h1, h2⟩ := h
  exact ⟨es, c, h1, fun w' r' e => ⟨es, c, l, e, h2⟩⟩
end
theorem undImg : Tryz.prog.underlying 115 = some (.map 3 24) := Tryz.underlying115
theorem zSlSt (w : World) : (zeroValue 24).run Tryz.prog w = .ok (.slice none 0 0) w := (zero_of_info (P := Tryz.prog) (t := 24) (v := .slice none 0 0) (n := 1) (by kernel_rfl)).1 w
theorem undInt : Tryz.prog.underlying 3 = some (.int .i64) := Tryz.underlying3
section
variable {w : World} {r : Nat} {F : Img}
theorem run_chk' (b : Bool) (n : Nat) (i : Int) (w : World) : (Instr.checkKey b (n + 1) 3 (.int .i64 i)).run Tryz.prog w = .ok () w := by
  unfold Instr.checkKey
  simp [run_underlying undInt, Result.andThen]
theorem run_chk (b : Bool) (i : Int) (w : World) : (Instr.checkKey b 10000 3 (.int .i64 i)).run Tryz.prog w = .ok () w := run_chk' b 9999 i w
theorem map_mod {α β : Type} {f : α → β} {g : α → α} {v : β} (hg : ∀ x, f (g x) = v) : ∀ (l : List α) (d : Nat), (l.modify d g).map f = (l.map f).set d v
  | [], d => by simp
  | x :: l, 0 => by simp [hg]
  | x :: l, d + 1 => by simp [map_mod hg l d]
theorem map_era {α β : Type} (f : α → β) : ∀ (l : List α) (d : Nat), (l.eraseIdx d).map f = (l.map f).eraseIdx d
  | [], d => by simp
  | x :: l, 0 => by simp
  | x :: l, d + 1 => by simp [map_era f l d]
theorem run_find {es : Array MapEntry} {l : List Ent} (h : es.toList.map kvE = l.map kvP) (i : Int) (w : World) : (Instr.findKey 3 (.int .i64 i) es.toList).run Tryz.prog w = .ok ((look l i 0).map fun q => (q.1, q.2)) w := by
  simp [Instr.findKey, run_underlying undInt, Result.andThen, find_now i es.toList l 0 h]
theorem run_look (h : MapV w r F) (i : Int) : (Instr.lookup 115 (.map (some r)) (.int .i64 i) false).run Tryz.prog w = .ok (F i) w := by
  obtain ⟨es, c, l, h1, h2, h3, h4⟩ := h
  have e := look_get i l 0
  cases hl : look l i 0 with
  | none =>
    rw [hl] at e
    have e2 : zero = getE l i := e
    have e3 : Value.slice none 0 0 = F i := e2.trans (h4 i)
    simp [Instr.lookup, run_underlying undImg, MapKept.run_getObj_map h1, run_chk, run_find h2, hl, Result.andThen, zSlSt w, e3]
  | some q =>
    rw [hl] at e
    have e2 : q.2 = getE l i := e
    have e3 : q.2 = F i := e2.trans (h4 i)
    simp [Instr.lookup, run_underlying undImg, MapKept.run_getObj_map h1, run_chk, run_find h2, hl, Result.andThen, e3]
theorem turn_set (w : World) (r : Nat) (o : Obj) : Turn (fun b => b = r) w { w with heap := w.heap.setIfInBounds r o } := ⟨rfl, rfl, rfl, by simp, fun k _ hk => by
  show (w.heap.setIfInBounds r o)[k]? = _
  rw [Array.getElem?_setIfInBounds_ne fun e => hk e.symm]⟩
theorem run_put (h : MapV w r F) (i : Int) (s : Value) : ∃ w', (Instr.mapUpdate 115 (.map (some r)) (.int .i64 i) (s)).run Tryz.prog w = .ok () w' ∧ MapV w' r (upd F i s) ∧ Turn (fun b => b = r) w w' := by
  have hlt := h.lt
  obtain ⟨es, c, l, h1, h2, h3, h4⟩ := h
  have hval : ∀ j, getE (putE l i s) j = upd F i s j := fun j => by
    rw [get_put]
    unfold upd
    by_cases e : j = i
    · rw [if_pos e, if_pos e]
    · rw [if_neg e, if_neg e]; exact h4 j
  cases hl : look l i 0 with
  | none =>
    obtain ⟨e1, e2⟩ := look_none hl
    refine ⟨_, by simp [Instr.mapUpdate, run_underlying undImg, MapKept.run_getObj_map h1, run_chk, run_find h2, hl, Result.andThen, MapKept.run_setObj_map _ h1]; rfl, ?_, turn_set _ _ _⟩
    refine ⟨_, _, putE l i s, by simp [hlt]; exact ⟨rfl, rfl⟩, ?_, nodup_put h3, hval⟩
    rw [e1, Array.toList_push, List.map_append, List.map_append, h2]
    rfl
  | some q =>
    obtain ⟨d, e1, e2, e3, e4⟩ := look_some hl
    rw [Nat.zero_add] at e1
    subst e1
    have hd : q.1 < l.length := (List.getElem?_eq_some_iff.1 e2).1
    have hlen : es.size = l.length := by have := congrArg List.length h2; simpa using this
    have hes : q.1 < es.size := by omega
    have hkey : es[q.1].key = .int .i64 i := by
      have := congrArg (fun x => x[q.1]?) h2
      simp only [List.getElem?_map, e2, Array.getElem?_toList, Array.getElem?_eq_getElem hes, Option.map_some, Option.some.injEq] at this
      exact congrArg Prod.fst this
    have hst : ∀ w, (Instr.keyThatStays (.int .i64 i) (.int .i64 i)).run Tryz.prog w = .ok (.int .i64 i) w := fun w => by
      simp [Instr.keyThatStays, Instr.sameBits]
    refine ⟨_, by simp [Instr.mapUpdate, run_underlying undImg, MapKept.run_getObj_map h1, run_chk, run_find h2, hl, Result.andThen, MapKept.run_setObj_map _ h1, Array.getElem?_eq_getElem hes, hkey, hst]; rfl, ?_, turn_set _ _ _⟩
    refine ⟨_, _, putE l i s, by simp [hlt]; exact ⟨rfl, rfl⟩, ?_, nodup_put h3, hval⟩
    rw [← e3, Array.toList_modify, List.map_set, ← h2]
    exact map_mod (f := kvE) (g := fun e => { key := Value.int IntKind.i64 i, val := s, born := e.born }) (v := kvP (i, s)) (fun _ => rfl) _ _
theorem run_del {ty : TypeId} (h : MapV w r F) (i : Int) : ∃ w', (Builtin.delete_ #[115, 3] ty #[.map (some r), .int .i64 i]).run Tryz.prog w = .ok (.tuple #[]) w' ∧ MapV w' r (upd F i zero) ∧ Turn (fun b => b = r) w w' := by
  have hlt := h.lt
  obtain ⟨es, c, l, h1, h2, h3, h4⟩ := h
  have hval : ∀ j, getE (delE l i) j = upd F i zero j := fun j => by
    rw [get_del i j l h3]
    unfold upd
    by_cases e : j = i
    · rw [if_pos e, if_pos e]
    · rw [if_neg e, if_neg e]; exact h4 j
  cases hl : look l i 0 with
  | none =>
    obtain ⟨e1, e2⟩ := look_none hl
    refine ⟨_, by simp [Builtin.delete_, run_underlying undImg, MapKept.run_getObj_map h1, run_chk, run_find h2, hl, Result.andThen, MapKept.run_setObj_map _ h1]; rfl, ?_, turn_set _ _ _⟩
    exact ⟨_, _, delE l i, by simp [hlt]; exact ⟨rfl, rfl⟩, by rw [e2]; exact h2, nodup_del h3, hval⟩
  | some q =>
    obtain ⟨d, e1, e2, e3, e4⟩ := look_some hl
    rw [Nat.zero_add] at e1
    subst e1
    refine ⟨_, by simp [Builtin.delete_, run_underlying undImg, MapKept.run_getObj_map h1, run_chk, run_find h2, hl, Result.andThen, MapKept.run_setObj_map _ h1]; rfl, ?_, turn_set _ _ _⟩
    refine ⟨_, _, delE l i, by simp [hlt]; exact ⟨rfl, rfl⟩, ?_, nodup_del h3, hval⟩
    rw [← e4, map_era, ← h2, ← map_era]
    congr 1
    rw [Array.toList_eraseIdxIfInBounds]
end
end MpV
end Go.Proofs.YtklmjdhhnnanoaaGreatDoor
set_option maxRecDepth 100000
namespace Go.Proofs.YtklmjdhhnnanoaaGreatDoor
open Go.ChangeShapes Go.WideShapes Go.ChangeAt Go.RowKit
attribute [local go_sem] Gives GivesE
namespace MbO
open MbM MbP
theorem madeN (w : World) : Calls Tryz.prog 45 #[.pointer none] w fun e w' => e = .returned (.bool false) ∧ w = w' := by
  go_enter Tryz.func45, Tryz.ntmps45
  go_wp2_with fail
  go_ret
  exact ⟨rfl, rfl⟩
theorem findN (i : Int) (w : World) : Calls Tryz.prog 46 #[.pointer none, .int .i64 i] w fun e w' => e = .returned (.int .i64 1) ∧ w = w' := by
  go_enter Tryz.func46, Tryz.ntmps46
  go_wp2_with fail
  refine (madeN w).mono ?_
  rintro e w' ⟨rfl, rfl⟩
  go_wp2_with fail
  go_ret
  exact ⟨rfl, rfl⟩
theorem backN (i : Int) (w : World) : Calls Tryz.prog 162 #[.pointer none, .int .i64 i] w fun e w' => e = .returned (.int .i64 1) ∧ Below w.heap.size w w' := by
  go_enter Tryz.func162, Tryz.ntmps162
  go_wp2_with fail
  refine (madeN w).mono ?_
  rintro e w' ⟨rfl, rfl⟩
  go_wp2_with fail
  go_ret
  exact ⟨rfl, Below.refl _ _⟩
section
variable {ops : Array Oper} {Q : Exit → Act → World → Prop} {a : Act} {w : World} {rest : List Oper} {dst : Option Tmp} {ty : TypeId} {pos : String} {after : Array Edge}
end
end MbO
end Go.Proofs.YtklmjdhhnnanoaaGreatDoor
set_option maxRecDepth 100000
namespace Go.Proofs.YtklmjdhhnnanoaaGreatDoor
open Go.ChangeShapes Go.WideShapes Go.ChangeAt Go.RowKit
attribute [local go_sem] Gives GivesE
namespace BuP
open BuM MbM MbP MpV
def pbV (A : Option Addr) (n c gc r : Nat) (vl : Value) (off : Bool) : Array Value := #[.slice A n c, .pointer (some ⟨gc, 0, none⟩), .map (some r), vl, .bool off]
def mutK (g r : Nat) (vl : Value) (q : Nat) : Prop := q = g ∨ q = r ∨ vl.ownBlock = some q
def Due (w : World) (S : Nat → Prop) (v : Value) (l : List Stp) : Prop := ∃ (L : List (Stp × SlB)) (A : Option Addr) (c : Nat), v = .slice A l.length c ∧ L.map (·.1) = l ∧ Sli 70 stL S w A L l.length c ∧
  ∀ x ∈ L, Arg w x.2.A x.1.picks x.1.picks.length x.2.c ∧ ∀ q o, 0 < x.1.picks.length → x.2.A = some ⟨q, o, none⟩ → S q
structure Sk (d : Nat) (w : World) (g : Nat) (gs : List Nat) (gc : Nat) (A : Option Addr) (c r : Nat) (vl : Value) (Fm : MpV.Img) (S : Nat → Prop) (steps : List Stp) (off : Bool) (log : List BuM.Ent) : Prop where
  blk : Blk w g 117 (pbV A gs.length c gc r vl off)
  pos : 1 ≤ gs.length
  arr : Sli 1 ptL S w A gs gs.length c
  map : MapV w r Fm
  due : ∀ n : Nat, log.length + d ≤ n → Due w S (Fm n) (steps.filter fun s => decide (s.a = (n : Int)))
  lg : OwnX 89 68 enL w 0 vl log
  slt : ∀ q, S q → q < w.heap.size
def RepK (d : Nat) : RepB := fun w g gs gc Mo Io steps off log => ∃ A c r vl Fm, Sk d w g gs gc A c r vl Fm Io steps off log ∧ Mo = mutK g r vl
section
variable {w w' : World} {d g gc c r : Nat} {gs : List Nat} {A : Option Addr} {vl : Value} {Fm : MpV.Img} {S : Nat → Prop} {steps : List Stp} {off : Bool} {log : List BuM.Ent}
theorem Due.turn {v : Value} {l : List Stp} {T : Nat → Prop} (H : Due w S v l) (ht : Turn T w w') (hT : ∀ q, S q → ¬ T q) : Due w' S v l := by
  obtain ⟨L, A, c, h1, h2, h3, h4⟩ := H
  exact ⟨L, A, c, h1, h2, h3.turn ht fun q hq _ => hT q hq, fun x hx => ⟨(h4 x hx).1.turn ht fun q o e1 e2 => hT q ((h4 x hx).2 q o e1 e2), (h4 x hx).2⟩⟩
theorem Sk.turn {T : Nat → Prop} (H : Sk d w g gs gc A c r vl Fm S steps off log) (ht : Turn T w w') (hT : ∀ q, mutK g r vl q ∨ S q → ¬ T q) : Sk d w' g gs gc A c r vl Fm S steps off log where
  blk := H.blk.turn ht (hT g (.inl (.inl rfl)))
  pos := H.pos
  arr := H.arr.turn ht fun q hq _ => hT q (.inr hq)
  map := H.map.turn ht (hT r (.inl (.inr (.inl rfl))))
  due n hn := (H.due n hn).turn ht fun q hq => hT q (.inr hq)
  lg := H.lg.turn ht fun q e => hT q (.inl (.inr (.inr e)))
  slt q hq := Nat.lt_of_lt_of_le (H.slt q hq) ht.size
theorem repK_frame {d : Nat} {w w' : World} {g : Nat} {gs : List Nat} {gc : Nat} {Mo Io : Nat → Prop} {steps : List Stp} {off : Bool} {log : List BuM.Ent} {T : Nat → Prop} (h : RepK d w g gs gc Mo Io steps off log) (ht : Turn T w w') (hT : ∀ q, Mo q ∨ Io q → ¬ T q) : RepK d w' g gs gc Mo Io steps off log := by
  obtain ⟨A, c, r, vl, Fm, H, rfl⟩ := h
  exact ⟨A, c, r, vl, Fm, H.turn ht hT, rfl⟩
theorem Sk.g_r (H : Sk d w g gs gc A c r vl Fm S steps off log) : g ≠ r := fun e => by
  obtain ⟨es, cl, l, h1, _⟩ := H.map
  have h2 : w.heap[g]? = some (.cells _ 117 (0, 0)) := H.blk
  rw [e, h1] at h2
  cases h2
theorem Sk.l_g (H : Sk d w g gs gc A c r vl Fm S steps off log) : vl.ownBlock ≠ some g := fun e => by
  obtain ⟨cs, hc⟩ := H.lg.obj e
  exact H.blk.neT (show Blk w g 89 cs from hc) (by decide) rfl
theorem Sk.l_r (H : Sk d w g gs gc A c r vl Fm S steps off log) : vl.ownBlock ≠ some r := fun e => by
  obtain ⟨cs, hc⟩ := H.lg.obj e
  obtain ⟨es, cl, l, h1, _⟩ := H.map
  rw [h1] at hc
  cases hc
theorem pb_ms (H : Blk w g 117 (pbV A gs.length c gc r vl off)) : w.cell? ⟨g, 0, none⟩ = some (.slice A gs.length c) := H.cell 0
theorem pb_mp (H : Blk w g 117 (pbV A gs.length c gc r vl off)) : w.cell? ⟨g, 2, none⟩ = some (.map (some r)) := H.cell 2
theorem pb_lg (H : Blk w g 117 (pbV A gs.length c gc r vl off)) : w.cell? ⟨g, 3, none⟩ = some vl := H.cell 3
theorem pb_off (H : Blk w g 117 (pbV A gs.length c gc r vl off)) : w.cell? ⟨g, 4, none⟩ = some (.bool off) := H.cell 4
theorem lb_made {n : Nat} (hb : w.cell? ⟨g, 0, none⟩ = some (.slice A n c)) (hn : 1 ≤ n) : Calls Tryz.prog 44 #[MbP.at' g] w fun e w' => e = .returned (.bool true) ∧ w = w' := by
  have t1 : (0 : Int) < (n : Int) := by omega
  have t2 : decide ((0 : Int) < (n : Int)) = true := by simp; omega
  have t3 : 0 < n := by omega
  unfold MbP.at'
  go_enter Tryz.func44, Tryz.ntmps44
  go_wp2_with fail
  go_ret
  exact ⟨rfl, rfl⟩
theorem lb_in {n mi bA oA gi : Nat} (hb : w.cell? ⟨g, 0, none⟩ = some (.slice (some ⟨bA, oA, none⟩) n c)) (hn : 1 ≤ n) (hm : mi < n) (hq : w.cell? ⟨bA, oA + mi, none⟩ = some (.pointer (some ⟨gi, 0, none⟩))) :
    Calls Tryz.prog 116 #[MbP.at' g, .int .i64 (mi : Nat)] w fun e w' => e = .returned (MbP.at' gi) ∧ w = w' := by
  have t7 : decide ((mi : Int) < 0) = false := by simp
  have t8 : decide ((mi : Int) ≥ (n : Int)) = false := by simp; omega
  have t8' : decide ((n : Int) ≤ (mi : Int)) = false := by simp; omega
  have t9 : (mi : Int) < (n : Int) := by omega
  unfold MbP.at'
  go_enter Tryz.func116, Tryz.ntmps116
  go_wp2_with fail
  refine (lb_made hb hn).mono ?_
  rintro e w' ⟨rfl, rfl⟩
  go_wp2_with fail
  go_ret
  exact ⟨rfl, rfl⟩
theorem lb_out {n : Nat} {m : Int} (hb : w.cell? ⟨g, 0, none⟩ = some (.slice A n c)) (hn : 1 ≤ n) (hm : ¬ (0 ≤ m ∧ m < n)) :
    Calls Tryz.prog 116 #[MbP.at' g, .int .i64 m] w fun e w' => e = .returned (.pointer none) ∧ w = w' := by
  by_cases h0 : m < 0
  · have t7 : decide (m < 0) = true := by simp; omega
    clear hm
    unfold MbP.at'
    go_enter Tryz.func116, Tryz.ntmps116
    go_wp2_with fail
    refine (lb_made hb hn).mono ?_
    rintro e w' ⟨rfl, rfl⟩
    go_wp2_with fail
    go_ret
    exact ⟨rfl, rfl⟩
  · have t7 : decide (m < 0) = false := by simp; omega
    have t8 : decide (m ≥ (n : Int)) = true := by simp; omega
    have t8' : decide ((n : Int) ≤ m) = true := by simp; omega
    clear hm
    unfold MbP.at'
    go_enter Tryz.func116, Tryz.ntmps116
    go_wp2_with fail
    refine (lb_made hb hn).mono ?_
    rintro e w' ⟨rfl, rfl⟩
    go_wp2_with fail
    go_ret
    exact ⟨rfl, rfl⟩
theorem lb_setN (i : Int) (x : Nat → Nat) (w : World) : Calls Tryz.prog 24 #[.pointer none, .int .i64 i, .agg (ar 64 x)] w fun e w' => e = .returned (.int .i64 1) ∧ Below w.heap.size w w' := by
  go_enter Tryz.func24, Tryz.ntmps24
  go_upto_region 1 with fail
  generalize hw1 : World.alloc (World.alloc w _) _ = w1
  have BEL := hid (show Below w.heap.size w w1 by rw [← hw1]; exact ((Below.refl _ _).alloc (Nat.le_refl _) _).alloc (by simp) _)
  have b0 := hid (show Blk w1 w.heap.size 3 #[.int .i64 i] by rw [← hw1]; exact (Blk.new _ _ _).alloc _)
  clear hw1
  have pi : w1.cell? ⟨w.heap.size, 0, none⟩ = some (.int .i64 i) := b0.out.cell 0
  go_wp2_with fail
  refine (MbO.findN i w1).mono ?_
  rintro e w' ⟨rfl, rfl⟩
  go_wp2_with fail
  go_ret
  exact ⟨rfl, BEL.out⟩
theorem lb_markN (w : World) : Calls Tryz.prog 160 #[.pointer none] w fun e w' => e = .returned (.tuple #[.int .i64 0, .int .i64 1]) ∧ Below w.heap.size w w' := by
  go_enter Tryz.func160, Tryz.ntmps160
  go_wp2_with fail
  refine (MbO.madeN w).mono ?_
  rintro e w' ⟨rfl, rfl⟩
  go_wp2_with fail
  go_ret2
  exact ⟨rfl, Below.refl _ _⟩
theorem lb_failN (q : Bool) (w : World) : Calls Tryz.prog 25 #[.pointer none, .bool q] w fun e w' => e = .returned (.int .i64 1) ∧ Below w.heap.size w w' := by
  go_enter Tryz.func25, Tryz.ntmps25
  go_wp2_with fail
  refine (MbO.madeN w).mono ?_
  rintro e w' ⟨rfl, rfl⟩
  go_wp2_with fail
  go_ret
  exact ⟨rfl, Below.refl _ _⟩
end
end BuP
end Go.Proofs.YtklmjdhhnnanoaaGreatDoor
set_option maxRecDepth 100000
namespace Go.Proofs.YtklmjdhhnnanoaaGreatDoor
open Go.ChangeShapes Go.WideShapes Go.ChangeAt Go.RowKit
theorem eltB : Elt 93 5 .u8 := elt_of Tryz.underlying93 (by kernel_rfl) (by kernel_rfl) (by kernel_rfl)
end Go.Proofs.YtklmjdhhnnanoaaGreatDoor
set_option maxRecDepth 100000
namespace Go.Proofs.YtklmjdhhnnanoaaGreatDoor
open Go.ChangeShapes Go.WideShapes Go.ChangeAt Go.RowKit
theorem infB : ∃ i : TypeInfo, Tryz.prog.info? 5 = some i ∧ i.zero = some (.int .u8 0) ∧ i.size = 1 ∧ i.bytes ≤ 1 := by
  have h1 : (Tryz.prog.info? 5).map (·.size) = some 1 := by kernel_rfl
  have h2 : (Tryz.prog.info? 5).map (fun i => decide (i.bytes ≤ 1)) = some true := by kernel_rfl
  have h3 : (Tryz.prog.info? 5).bind (·.zero) = some (.int .u8 0) := by kernel_rfl
  cases hi : Tryz.prog.info? 5 with
  | none => rw [hi] at h1; cases h1
  | some i =>
    rw [hi] at h1 h2 h3
    simp only [Option.map_some, Option.some.injEq, decide_eq_true_eq, Option.bind_some] at h1 h2 h3
    exact ⟨i, rfl, h3, h1, h2⟩
section
variable {w : World} {B B' : Nat} {v : Value} {l kk : List Nat} {ad : Addr} {m c : Nat} {ty : TypeId} {ops : Array Oper} {Q : Exit → Act → World → Prop} {a : Act} {rest : List Oper} {dst : Option Tmp} {pos : String} {after : Array Edge} {s x : Operand}
theorem run_appB (hown : Own 5 .u8 w B v l) (hrd : Nums .u8 w B' (some ad) kk) (hk : kk.length = m) (hsz : l.length + m ≤ 140737488355328) (hB : B ≤ w.heap.size) :
    ∃ v' w', (Builtin.append_ #[93, 93] ty #[v, .slice (some ad) m c]).run Tryz.prog w = .ok v' w' ∧ Own 5 .u8 w' B v' (l ++ kk) ∧ w.grownBy w' v.ownBlock := by
  obtain ⟨i, hi, hz, h1, h2⟩ := infB
  subst hk
  obtain ⟨v', w', hr, ho, hg, _⟩ := run_append_own (P := Tryz.prog) w B 93 ty 5 i (.int .u8 0) 1 i.bytes eltB.und hi hz h1 rfl rfl (by decide) v l.length _ hown ad kk.length c (nums .u8 kk) (by rw [nums_length, Nat.mul_one])
    (fun j u hj => by
      have hjm : j < kk.length := by
        have := (List.getElem?_eq_some_iff.1 hj).1
        rwa [nums_length] at this
      obtain ⟨b, o, e', _, hr⟩ := hrd (by omega)
      obtain rfl : ad = ⟨b, o, none⟩ := Option.some.inj e'
      rw [nums_get .u8 hjm] at hj
      rw [Addr.add_mid, hr j hjm]
      exact hj)
    (fun u hu => by
      obtain ⟨y, _, rfl⟩ := List.mem_map.1 hu
      rfl)
    (by unfold maxLen; omega) (Nat.le_trans (Nat.mul_le_mul hsz h2) (by omega)) hB
  refine ⟨v', w', hr, ?_, hg⟩
  unfold Own
  rw [List.length_append, nums_append]
  exact ho
theorem wappB {A : Option Addr} (hs : a.eval s = v) (hx : a.eval x = .slice A m c) (h0 : A = none → m = 0 ∧ c = 0) (hown : Own 5 .u8 w B v l) (hrd : Nums .u8 w B' A kk) (hk : kk.length = m) (hsz : l.length + m ≤ 140737488355328) (hB : B ≤ w.heap.size)
    (h : ∀ v' w', Own 5 .u8 w' B v' (l ++ kk) → w.grownBy w' v.ownBlock → wpList Tryz.prog ops Q rest (a.put dst v') w') :
    wpList Tryz.prog ops Q (⟨dst, .call { callee := .builtin .append, args := #[s, x], argTypes := #[93, 93] }, ty, pos, after, none⟩ :: rest) a w := by
  cases A with
  | none =>
    obtain ⟨rfl, rfl⟩ := h0 rfl
    obtain rfl := List.eq_nil_of_length_eq_zero hk
    rw [List.append_nil] at h
    exact wappN_none eltB hs hx hown (h v w hown ⟨rfl, rfl, rfl, Nat.le_refl _, fun _ _ _ => rfl⟩)
  | some ad =>
    obtain ⟨v', w', hr, h1, h2⟩ := run_appB (ty := ty) (c := c) hown hrd hk hsz hB
    refine wpList_plain rfl fun K hK => ?_
    unfold Oper.wp execOp
    simp only [resolve, invoke, builtin, Sem.run_bind, Sem.run_pure, Result.andThen_ok, List.map_toArray, List.map_cons, List.map_nil, hs, hx, hr]
    exact hK _ _ (h v' w' h1 h2)
end
end Go.Proofs.YtklmjdhhnnanoaaGreatDoor
set_option maxRecDepth 100000
namespace Go.Proofs.YtklmjdhhnnanoaaGreatDoor
open Go.ChangeShapes Go.WideShapes Go.ChangeAt Go.RowKit
attribute [local go_sem] Gives GivesE
namespace BuP
open BuM MbM MbP MpV
section
variable {w w' : World} {d g k : Nat} {F : Fq} {b : Bs}
theorem lb_members (H : Pp (RepK d) w g F k b) : Calls Tryz.prog 58 #[MbP.at' g] w fun e w' => e = .returned (.int .i64 (b.ms.length : Nat)) ∧ Below w.heap.size w w' := by
  obtain ⟨A, c, r, vl, Fm, K, _⟩ := H.skel
  have p0 := pb_ms K.blk
  have hp := K.pos
  rw [H.len] at p0 hp
  clear K H
  unfold MbP.at'
  go_enter Tryz.func58, Tryz.ntmps58
  go_wp2_with fail
  refine (lb_made p0 hp).mono ?_
  rintro e w' ⟨rfl, rfl⟩
  go_wp2_with fail
  go_ret
  exact ⟨rfl, Below.refl _ _⟩
theorem lb_count (H : Pp (RepK d) w g F k b) : Calls Tryz.prog 11 #[MbP.at' g] w fun e w' => e = .returned (.int .i64 (b.log.length : Nat)) ∧ Below w.heap.size w w' := by
  obtain ⟨A, c, r, vl, Fm, K, _⟩ := H.skel
  have p0 := pb_ms K.blk
  have p3 := pb_lg K.blk
  have hp := K.pos
  obtain ⟨Al, cl, rfl, _⟩ := K.lg.sli enL_len
  clear K H
  unfold MbP.at'
  go_enter Tryz.func11, Tryz.ntmps11
  go_wp2_with fail
  refine (lb_made p0 hp).mono ?_
  rintro e w' ⟨rfl, rfl⟩
  go_wp2_with fail
  go_ret
  exact ⟨rfl, Below.refl _ _⟩
theorem pb_setOff {A : Option Addr} {n c gc r : Nat} {vl : Value} {off : Bool} (H : Blk w g 117 (pbV A n c gc r vl off)) (off' : Bool) : Blk (w.setCell ⟨g, 4, none⟩ (.bool off')) g 117 (pbV A n c gc r vl off') := H.setCell_same 4 _
theorem pb_setLg {A : Option Addr} {n c gc r : Nat} {vl : Value} {off : Bool} (H : Blk w g 117 (pbV A n c gc r vl off)) (v' : Value) : Blk (w.setCell ⟨g, 3, none⟩ v') g 117 (pbV A n c gc r v' off) := H.setCell_same 3 _
theorem Pp.offed (H : Pp (RepK d) w g F k b) (off' : Bool) : outQ (RepK d) w g F k { b with off := off' } (w.setCell ⟨g, 4, none⟩ (.bool off')) := by
  obtain ⟨A, c, r, vl, Fm, K, hM⟩ := H.skel
  have ht := Turn.setCell (S := fun q => q = g) w ⟨g, 4, none⟩ (.bool off') rfl
  refine H.own (Mo' := F.Mo) (log' := b.log) ⟨A, c, r, vl, Fm, ⟨pb_setOff K.blk off', K.pos, K.arr.turn ht fun q hq _ e => ?_, K.map.turn ht fun e => K.g_r e.symm, fun n hn => (K.due n hn).turn ht fun q hq e => ?_, K.lg.turn ht fun q e e2 => K.l_g (by rw [e, e2]), fun q hq => ?_⟩, hM⟩ (ht.mono fun q e => by rw [hM]; exact .inl e) (fun q e => .inl e) (fun q e => Nat.lt_of_lt_of_le (H.olt q (.inl e)) ht.size) (Nat.le_refl _) H.sz.2.2.2.1
  · exact H.sep q (.inl hq) (.inl (by rw [hM]; exact .inl e))
  · exact H.sep q (.inl hq) (.inl (by rw [hM]; exact .inl e))
  · exact Nat.lt_of_lt_of_le (K.slt q hq) ht.size
theorem lb_power (H : Pp (RepK d) w g F k b) : Calls Tryz.prog 43 #[MbP.at' g] w fun e w' => e = .returned (.int .i64 0) ∧ outQ (RepK d) w g F k (BuM.power b) w' := by
  have HO := hid (H.offed false)
  obtain ⟨A, c, r, vl, Fm, K, _⟩ := H.skel
  have p0 := pb_ms K.blk
  have p4 := pb_off K.blk
  have fz := K.blk.frozen 4
  have hp := K.pos
  clear K H
  unfold MbP.at'
  go_enter Tryz.func43, Tryz.ntmps43
  go_wp2_with fail
  refine (lb_made p0 hp).mono ?_
  rintro e w' ⟨rfl, rfl⟩
  go_wp2_with fail
  go_ret
  exact ⟨rfl, HO.out⟩
theorem Pp.at (H : Pp (RepK d) w g F k b) {mi : Nat} (hm : mi < b.ms.length) : ∃ gi st A c bA oA, F.gs[mi]? = some gi ∧ b.ms[mi]? = some st ∧ RepM w gi (F.Ms mi) (F.Is mi) k st ∧ BuM.at' b.ms (mi : Int) = st ∧ w.cell? ⟨g, 0, none⟩ = some (.slice A b.ms.length c) ∧ A = some ⟨bA, oA, none⟩ ∧ w.cell? ⟨bA, oA + mi, none⟩ = some (.pointer (some ⟨gi, 0, none⟩)) ∧ F.Io bA := by
  obtain ⟨A, c, r, vl, Fm, K, _⟩ := H.skel
  have p0 := pb_ms K.blk
  have hg : mi < F.gs.length := by rw [H.len]; exact hm
  obtain ⟨bA, oA, hA, hS, _, hr⟩ := K.arr.some (List.getElem?_eq_getElem hg)
  rw [Nat.mul_one] at hr
  rw [H.len] at p0
  refine ⟨F.gs[mi], b.ms[mi], A, c, bA, oA, List.getElem?_eq_getElem hg, List.getElem?_eq_getElem hm, H.mem mi _ _ (List.getElem?_eq_getElem hg) (List.getElem?_eq_getElem hm), ?_, p0, hA, pt_p hr, hS⟩
  unfold BuM.at'
  rw [Int.toNat_natCast, List.getD_eq_getElem?_getD, List.getElem?_eq_getElem hm]; rfl
theorem Pp.pos (H : Pp (RepK d) w g F k b) : 1 ≤ b.ms.length := by
  obtain ⟨A, c, r, vl, Fm, K, _⟩ := H.skel
  rw [← H.len]; exact K.pos
theorem Pp.hd (H : Pp (RepK d) w g F k b) : ∃ A c, w.cell? ⟨g, 0, none⟩ = some (.slice A b.ms.length c) := by
  obtain ⟨A, c, r, vl, Fm, K, _⟩ := H.skel
  have p0 := pb_ms K.blk
  rw [H.len] at p0
  exact ⟨A, c, p0⟩
set_option maxRecDepth 100000 in
theorem lb_cloneE {v : Value} {l : List BuM.Ent} (hO : OwnX 89 68 enL w 0 v l) (hlen : l.length ≤ 220000) :
    Calls Tryz.prog 68 #[v] w fun e w' => ∃ v', e = .returned v' ∧ OwnX 89 68 enL w' w.heap.size v' l ∧ Below w.heap.size w w' := by
  obtain ⟨A, cap, rfl, sl⟩ := hO.sli enL_len
  have SL := hid sl
  cases A with
  | none =>
    obtain ⟨hl0, rfl⟩ := sl.none rfl
    obtain rfl := List.eq_nil_of_length_eq_zero hl0
    have hq : ∀ w, (binOp .eql 86 (.slice none 0 0) (.slice none 0 0)).run Tryz.prog w = .ok (.bool true) w := fun w => Go.Lib.run_eql_slice_nil (P := Tryz.prog) w 86 89 none 0 0 0 0 undEnP
    rw [List.length_nil]
    clear hO sl SL hl0
    go_enter Tryz.func68, Tryz.ntmps68
    go_wp2_with fail
    go_ret
    exact ⟨_, rfl, OwnX.nil _ _ _ _ _, Below.refl _ _⟩
  | some ad =>
    have hq : ∀ w, (binOp .eql 86 (.slice (some ad) l.length cap) (.slice none 0 0)).run Tryz.prog w = .ok (.bool false) w := fun w => Go.Lib.run_eql_slice_nil (P := Tryz.prog) w 86 89 (some ad) l.length cap 0 0 undEnP
    clear hO sl
    go_enter Tryz.func68, Tryz.ntmps68
    go_wp2_with (at_builtin; (with_reducible apply wappX eltEnP undEnP (B := w.heap.size)); rfl; rfl; exact OwnX.empty (Nat.le_refl _); exact SL.out.turn (Turn.alloc (S := fun _ => False) w _) (fun _ _ _ e => e); (simp; omega); omega; (simp); intro v2 w2 o2 g2)
    rw [List.nil_append] at o2
    have b2 : Below w.heap.size w w2 := ((Below.refl _ _).alloc (Nat.le_refl _) _).trans ((Turn.of_grown (S := fun b => w.heap.size ≤ b) g2 fun b e => by cases e; simp).below (by simp) fun _ h => h)
    go_ret
    exact ⟨_, rfl, o2, b2⟩
theorem lb_log (H : Pp (RepK d) w g F k b) (hk : k ≤ 200000) : Calls Tryz.prog 30 #[MbP.at' g] w fun e w' => ∃ v, e = .returned v ∧ OwnX 89 68 enL w' w.heap.size v b.log ∧ Below w.heap.size w w' := by
  have hs := H.sz.2.2.2.1
  obtain ⟨A, c, r, vl, Fm, K, _⟩ := H.skel
  have p0 := pb_ms K.blk
  have p3 := pb_lg K.blk
  have hp := K.pos
  have O := hid K.lg
  clear K H
  unfold MbP.at'
  go_enter Tryz.func30, Tryz.ntmps30
  go_wp2_with fail
  refine (lb_made p0 hp).mono ?_
  rintro e w' ⟨rfl, rfl⟩
  go_wp2_with fail
  refine (lb_cloneE O.out (by omega)).mono ?_
  rintro e w2 ⟨v', rfl, o2, hb⟩
  have O2 := hid o2
  have HB := hid hb
  clear o2 hb p0 p3 O
  go_wp2_with fail
  go_ret
  exact ⟨_, rfl, O2.out, HB.out⟩
end
end BuP
end Go.Proofs.YtklmjdhhnnanoaaGreatDoor
set_option maxRecDepth 100000
namespace Go.Proofs.YtklmjdhhnnanoaaGreatDoor
open Go.ChangeShapes Go.WideShapes Go.ChangeAt Go.RowKit
theorem und_byts : Tryz.prog.underlying 93 = some (.slice (Tryz.prog.elem 93)) := by kernel_rfl
theorem size_byts (w : World) : (sizeOf (Tryz.prog.elem 93)).run Tryz.prog w = .ok 1 w := by
  have h : (Tryz.prog.info? (Tryz.prog.elem 93)).map (·.size) = some 1 := by kernel_rfl
  cases hi : Tryz.prog.info? (Tryz.prog.elem 93) with
  | none => rw [hi] at h; cases h
  | some i =>
    rw [hi] at h
    simp only [Option.map_some, Option.some.injEq] at h
    simp [sizeOf, typeInfo, hi, h]
theorem Byt.dropIf {w : World} {B : Nat} {A : Option Addr} {l : List Nat} (h : Byt w B A l) (cap W : Nat) (hc : l.length ≤ cap) : Byt w B (if cap = W then A else Option.map (fun x => x.add W) A) (l.drop W) := fun hn => by
  have hn' := hn
  rw [List.length_drop] at hn
  obtain ⟨b, o, rfl, hl, hr⟩ := h (by omega)
  rw [if_neg (by omega)]
  have e : Option.map (fun x => Addr.add x W) (some ⟨b, o, Option.none⟩) = some ⟨b, o + W, Option.none⟩ := by rw [Option.map_some, Addr.add_mid]
  rw [e]
  exact Byt.drop (l := l) (fun _ => ⟨b, o, rfl, hl, hr⟩) W hn'
end Go.Proofs.YtklmjdhhnnanoaaGreatDoor
set_option maxRecDepth 100000
namespace Go.Proofs.YtklmjdhhnnanoaaGreatDoor
open Go.ChangeShapes Go.WideShapes Go.ChangeAt Go.RowKit
attribute [local go_sem] Gives GivesE
namespace BuP
open BuM MbM MbP MpV
theorem run_min2 (ts : Array TypeId) (t : TypeId) {x y n : Nat} (h : n = min x y) (w : World) : (Builtin.min_ ts t #[.int .i64 (x : Int), .int .i64 (y : Int)]).run Tryz.prog w = .ok (.int .i64 (n : Int)) w := by
  have e : (if (y : Int) < (x : Int) then (y : Int) else x) = (n : Int) := by
    subst h
    split <;> omega
  rw [← e]
  simp [Builtin.min_, Builtin.min2]
section
variable {ops : Array Oper} {Q : Exit → Act → World → Prop} {a : Act} {w : World} {rest : List Oper} {dst : Option Tmp} {ty : TypeId} {pos : String} {after : Array Edge} {x y : Operand} {A : Option Addr} {l : List Nat} {n cap i : Nat}
theorem byt_cut (h : Arg w A l n cap) {B m W : Nat} (hm : 0 < m) (hn : m ≤ n) {q o : Nat} (e : (if cap = W then A else Option.map (fun x => x.add B) A) = some ⟨q, o, none⟩) : ∃ o', A = some ⟨q, o', none⟩ := by
  obtain ⟨b, o1, rfl, _, _⟩ := h.byt (by rw [h.len]; omega)
  split at e
  · cases e; exact ⟨_, rfl⟩
  · rw [Option.map_some, Addr.add_mid] at e
    cases e
    exact ⟨_, rfl⟩
theorem run_slT (h : Arg w A l n cap) (hj : i ≤ n) :
    ∃ A', (Instr.sliceAt 93 (.slice A n cap) none (some (.int .i64 i)) none).run Tryz.prog w = .ok (.slice A' i cap) w ∧ Arg w A' (l.take i) i cap ∧ (∀ q o, 0 < i → A' = some ⟨q, o, none⟩ → ∃ o', A = some ⟨q, o', none⟩) := by
  have hc := h.cap
  have hm := h.max
  refine ⟨if cap = 0 then A else A.map (·.add (0 * 1)), ?_, ?_, fun q o hi e => byt_cut h hi hj e⟩
  · rw [run_sliceAt_slice w 93 _ _ _ _ und_byts, run_slice_h w 93 A n cap und_byts .i64 i (by omega) (by omega), size_byts]
    simp only [Result.andThen, sliced, Int.toNat_natCast, Nat.sub_zero]
  · refine ⟨by rw [List.length_take, h.len]; omega, by omega, hm, h.b256.take _, fun e => ?_, (h.byt.dropIf cap 0 (by rw [h.len]; exact hc)).take _⟩
    by_cases hi : cap = 0
    · exact ⟨by omega, by omega⟩
    · rw [if_neg hi] at e
      cases A with
      | none => have := h.none rfl; exact ⟨by omega, by omega⟩
      | some a => cases e
theorem run_slF (h : Arg w A l n cap) (hj : i ≤ n) :
    ∃ A', (Instr.sliceAt 93 (.slice A n cap) (some (.int .i64 i)) none none).run Tryz.prog w = .ok (.slice A' (n - i) (cap - i)) w ∧ Arg w A' (l.drop i) (n - i) (cap - i) ∧ (∀ q o, 0 < n - i → A' = some ⟨q, o, none⟩ → ∃ o', A = some ⟨q, o', none⟩) := by
  have hc := h.cap
  have hm := h.max
  refine ⟨if cap = i then A else A.map (·.add (i * 1)), ?_, ?_, fun q o hi e => byt_cut h hi (by omega) e⟩
  · rw [run_sliceAt_slice w 93 _ _ _ _ und_byts, run_slice_l w 93 A n cap und_byts .i64 i (by omega) (by omega), size_byts]
    simp only [Result.andThen, sliced, Int.toNat_natCast]
  · rw [Nat.mul_one]
    refine ⟨by rw [List.length_drop, h.len], by omega, by omega, h.b256.drop i, fun e => ?_, h.byt.dropIf cap i (by rw [h.len]; exact hc)⟩
    by_cases hi : cap = i
    · exact ⟨by omega, by omega⟩
    · rw [if_neg hi] at e
      cases A with
      | none => have := h.none rfl; exact ⟨by omega, by omega⟩
      | some a => cases e
theorem wslT1 {y : Operand} (hx : a.eval x = .slice A n cap) (hy : a.eval y = .int .i64 i) (h : Arg w A l n cap) (hj : i ≤ n)
    (hk : ∀ A', Arg w A' (l.take i) i cap → (∀ q o, 0 < i → A' = some ⟨q, o, none⟩ → ∃ o', A = some ⟨q, o', none⟩) → wpList Tryz.prog ops Q rest (a.put dst (.slice A' i cap)) w) : wpList Tryz.prog ops Q (⟨dst, .slice 93 x none (some y) none, ty, pos, after, none⟩ :: rest) a w := by
  obtain ⟨A', hr, ha, hp⟩ := run_slT h hj
  refine wpList_plain rfl fun K hK => ?_
  unfold Oper.wp execOp
  simp only [Sem.run_bind, Option.map_some, Option.map_none, Sem.run_pure, hx, hy, hr, Result.andThen_ok]
  exact hK _ _ (hk A' ha hp)
theorem wslF1 {y : Operand} (hx : a.eval x = .slice A n cap) (hy : a.eval y = .int .i64 i) (h : Arg w A l n cap) (hj : i ≤ n)
    (hk : ∀ A', Arg w A' (l.drop i) (n - i) (cap - i) → (∀ q o, 0 < n - i → A' = some ⟨q, o, none⟩ → ∃ o', A = some ⟨q, o', none⟩) → wpList Tryz.prog ops Q rest (a.put dst (.slice A' (n - i) (cap - i))) w) : wpList Tryz.prog ops Q (⟨dst, .slice 93 x (some y) none none, ty, pos, after, none⟩ :: rest) a w := by
  obtain ⟨A', hr, ha, hp⟩ := run_slF h hj
  refine wpList_plain rfl fun K hK => ?_
  unfold Oper.wp execOp
  simp only [Sem.run_bind, Option.map_some, Option.map_none, Sem.run_pure, hx, hy, hr, Result.andThen_ok]
  exact hK _ _ (hk A' ha hp)
end
theorem rep_low {w : World} {g k k' : Nat} {M I : Nat → Prop} {st : St} (h : RepM w g M I k st) (hk : st.log.length ≤ k') : RepM w g M I k' st := by
  obtain ⟨rs, rd, vl, vm, ms, H, ⟨_, hm, hn⟩, rfl, rfl⟩ := h
  exact ⟨rs, rd, vl, vm, ms, H, ⟨hk, hm, hn⟩, rfl, rfl⟩
theorem rep_log {w : World} {g k : Nat} {M I : Nat → Prop} {st : St} (h : RepM w g M I k st) : st.log.length ≤ k := by
  obtain ⟨rs, rd, vl, vm, ms, H, ⟨h1, hm, hn⟩, rfl, rfl⟩ := h
  exact h1
theorem rep_marks {w : World} {g k : Nat} {M I : Nat → Prop} {st : St} (h : RepM w g M I k st) {q o : Nat} {v : Value} (hI : I q) : w.cell? ⟨q, o, none⟩ ≠ some v := fun hc => by
  obtain ⟨rs, rd, vl, vm, ms, H, _, rfl, rfl⟩ := h
  obtain ⟨E, es, cl, l, h1, _⟩ := H.im_lt hI
  unfold World.cell? at hc
  simp [h1] at hc
theorem arg_ne {w : World} {A : Option Addr} {l : List Nat} {n c q o : Nat} (h : Arg w A l n c) (hl : 0 < l.length) (e : A = some ⟨q, o, none⟩) : ∃ o v, w.cell? ⟨q, o, none⟩ = some v := by
  obtain ⟨b, o1, e2, _, hr⟩ := h.byt hl
  rw [e] at e2
  cases e2
  exact ⟨_, _, hr 0 hl⟩
section
variable {w : World} {d g k : Nat} {F : Fq} {b : Bs}
theorem repK_fr (d : Nat) : ∀ {w w' g gs gc Mo Io steps off log} {T : Nat → Prop}, RepK d w g gs gc Mo Io steps off log → Turn T w w' → (∀ q, Mo q ∨ Io q → ¬ T q) → RepK d w' g gs gc Mo Io steps off log := fun h ht hT => repK_frame h ht hT
theorem Pp.belowK {w' : World} (H : Pp (RepK d) w g F k b) (hb : Below w.heap.size w w') : Pp (RepK d) w' g F k b := outQ.on (repK_fr d) H (T := fun _ => False) (Turn.of_new hb) fun _ _ e => e
theorem Pp.turnK {w' : World} {T : Nat → Prop} (H : Pp (RepK d) w g F k b) (ht : Turn T w w') (hT : ∀ q, mutP F q ∨ rdP F q → ¬ T q) : Pp (RepK d) w' g F k b := outQ.on (repK_fr d) H ht hT
theorem outQ.same {w' : World} (H : Pp (RepK d) w g F k b) (hb : Below w.heap.size w w') : outQ (RepK d) w g F k b w' := ⟨F, H.belowK hb, rfl, rfl, fun _ e => .inl e, fun _ e => .inr (.inl e), Turn.of_new hb⟩
set_option maxHeartbeats 1000000 in
set_option maxRecDepth 100000 in
theorem lb_crash (H : Pp (RepK d) w g F k b) (hk : k ≤ 200000) {P : Option Addr} {picks : List Nat} {pn pc : Nat} (HP : Arg w P picks pn pc) (hpm : pn ≤ 140737488351232) (hPS : ∀ q o, 0 < picks.length → P = some ⟨q, o, none⟩ → ¬ mutP F q ∧ q < w.heap.size) :
    Calls Tryz.prog 166 #[MbP.at' g, .slice P pn pc] w fun e w' => e = .returned (.tuple #[]) ∧ outQ (RepK d) w g F k { b with ms := crashAll b.ms picks, off := true } w' := by
  have HH := hid H
  have HA := hid HP
  have HS := hid hPS
  obtain ⟨A, c, r, vl, Fm, K, _⟩ := H.skel
  have p0 := pb_ms K.blk
  have AR := hid K.arr
  have GL := hid H.len
  have hmx := H.sz.1
  rw [H.len] at p0
  clear K H HP hPS
  unfold MbP.at'
  go_enter Tryz.func166, Tryz.ntmps166
  go_wp2_with fail
  clear p0
  go_loopw [1, 12] (fun u1 u12 wr => ∃ (i : Nat) (P' : Option Addr) (n' c' : Nat) (pk : List Nat) (F' : Fq) (dn : List St), u1 = .slice P' n' c' ∧ u12 = .int .i64 i ∧ i ≤ b.ms.length ∧ n' ≤ 140737488351232 ∧ dn.length = i ∧ Hid (dn ++ crashAll (b.ms.drop i) pk = crashAll b.ms picks) ∧
    Hid (Arg wr P' pk n' c' ∧ ∀ q o, 0 < pk.length → P' = some ⟨q, o, none⟩ → ¬ mutP F q ∧ q < w.heap.size) ∧ Hid (Pp (RepK d) wr g F' k { b with ms := dn ++ b.ms.drop i }) ∧
    Hid (F'.gs = F.gs ∧ F'.gc = F.gc ∧ (∀ q, mutP F' q → mutP F q ∨ w.heap.size ≤ q) ∧ (∀ q, rdP F' q → mutP F q ∨ rdP F q ∨ w.heap.size ≤ q) ∧ Turn (mutP F) w wr)) (fun _ u12 _ => b.ms.length - (intOf u12).toNat)
  case atStart => exact ⟨0, P, pn, pc, picks, F, [], rfl, rfl, Nat.zero_le _, hpm, rfl, hid rfl, hid ⟨HA.out, HS.out⟩, HH, hid ⟨rfl, rfl, fun _ e => .inl e, fun _ e => .inr (.inl e), Turn.refl _ _⟩⟩
  case round =>
    obtain ⟨i, P', n', c', pk, F', dn, rfl, rfl, hi, hn', hdn, HE, HAr, HPp, HF⟩ := hrel
    obtain ⟨wo, hwo⟩ : ∃ x, x = wr := ⟨_, rfl⟩
    subst hwo
    by_cases hin : i < b.ms.length
    · have t1 : (i : Int) < (b.ms.length : Int) := by omega
      have hgi0 : i < F.gs.length := by rw [GL.out]; exact hin
      obtain ⟨gi, hgi⟩ : ∃ gi, F.gs[i]? = some gi := ⟨_, List.getElem?_eq_getElem hgi0⟩
      obtain ⟨bA, oA, rfl, hbS, hbl, hr⟩ := AR.out.some hgi
      rw [Nat.mul_one] at hr
      have q1 : wo.cell? ⟨bA, oA + i, none⟩ = some (.pointer (some ⟨gi, 0, none⟩)) := HF.out.2.2.2.2.cell (p := ⟨bA, oA + i, none⟩) (pt_p hr) fun e => HH.out.sep bA (.inl hbS) e
      obtain ⟨st, hst⟩ : ∃ st, b.ms[i]? = some st := ⟨_, List.getElem?_eq_getElem hin⟩
      have hst2 : (dn ++ b.ms.drop i)[i]? = some st := by
        rw [List.getElem?_append_right (by omega), hdn, Nat.sub_self, List.getElem?_drop, Nat.add_zero]; exact hst
      have hgi2 : F'.gs[i]? = some gi := by rw [HF.out.1]; exact hgi
      have RMi := hid (HPp.out.mem i gi st hgi2 hst2)
      have hll := rep_log RMi.out
      have HGI := hid hgi2
      have HST := hid hst
      have HST2 := hid hst2
      have hpl := hid HAr.out.1.len
      clear hr hgi hgi2 hst hst2
      go_upto_region 3 with fail
      go_wp2_with fail
      refine (MbP.memB_ok.unflushed RMi.out).mono ?_
      rintro e w2 ⟨rfl, hb2⟩
      have HB2 := hid hb2
      obtain ⟨m, hm⟩ : ∃ m, m = min st.log.length n' := ⟨_, rfl⟩
      have HM := hid hm
      have hmn : m ≤ n' := by omega
      have hmi := fun w => run_min2 #[3, 3] 3 (x := st.log.length) (y := n') (n := m) hm w
      have A2 := hid (HAr.out.1.on hb2)
      have P2 := hid (HPp.out.belowK hb2)
      have R2 := hid (MbP.memB_ok.frame RMi.out (T := fun _ => False) (Turn.of_new hb2) fun _ _ e => e)
      clear hb2 hm q1
      go_upto_region 4 with fail
      go_wp2_with ((with_reducible apply wslT1); rfl; rfl; exact A2.out; exact hmn; intro A3 hA3 hp3)
      have hne : ∀ q, (¬ mutP F q ∧ q < w.heap.size) → ¬ mutP F' q := fun q e x => by
        rcases HF.out.2.2.1 q x with y | y
        · exact e.1 y
        · omega
      have NE := hid hne
      have P3 := hid hp3
      have A3h := hid hA3
      have hgl : i < F'.gs.length := (List.getElem?_eq_some_iff.1 HGI.out).1
      have hok : st.ok := P2.out.ok.1 st (List.mem_of_getElem? HST2.out)
      have htk := hid (show pk.take m = pk.take st.log.length by
        have := hpl.out; have := HM.out
        by_cases e : st.log.length ≤ n'
        · rw [show m = st.log.length by omega]
        · rw [List.take_of_length_le (by omega), List.take_of_length_le (by omega)])
      have hdk := hid (show pk.drop m = pk.drop st.log.length by
        have := hpl.out; have := HM.out
        by_cases e : st.log.length ≤ n'
        · rw [show m = st.log.length by omega]
        · rw [List.drop_eq_nil_of_le (by omega), List.drop_eq_nil_of_le (by omega)])
      have htl := hid (show (pk.take m).length = m by rw [List.length_take]; have := hpl.out; omega)
      have hpkS := hid (show ∀ q o, 0 < (pk.take m).length → A3 = some ⟨q, o, none⟩ → ¬ (F'.Ms i q ∨ F'.Is i q) from fun q o h1 h2 x => by
        have hm0 : 0 < m := by rw [htl.out] at h1; exact h1
        obtain ⟨o', h3⟩ := P3.out q o hm0 h2
        have hIo := HAr.out.2 q o' (by have := hpl.out; omega) h3
        rcases x with x | x
        · exact NE.out q hIo (.inr (.inr ⟨i, hgl, x⟩))
        · obtain ⟨o2, v2, h4⟩ := arg_ne A3h.out h1 h2
          exact rep_marks R2.out x h4)
      clear hne hp3 hA3
      refine (MbP.memB_ok.crash R2.out hok (by omega) A3 (pk.take m) m c' A3h.out hpkS.out).mono ?_
      rintro e w4 ⟨rfl, ho⟩
      have ho2 : outP RepM w2 gi (F'.Ms i) (F'.Is i) k (crash st (pk.take m)) w4 := by
        obtain ⟨M', I', h1, h2⟩ := ho
        exact ⟨M', I', rep_low h1 (Nat.zero_le _), h2⟩
      obtain ⟨F2, hP4, e1, e2, e3, e4, e5⟩ := Pp.put (repB := RepK d) (repK_fr d) P2.out HGI.out ho2 (Nat.le_refl _) (cr_ok hok _)
      have T4 := hid e5
      have A4 := hid (show Arg w4 P' pk n' c' from A2.out.turn e5 fun q o h1 h2 => NE.out q (HAr.out.2 q o h1 h2))
      have HB0 := HB2.out
      have F4 := hid (show F2.gs = F.gs ∧ F2.gc = F.gc ∧ (∀ q, mutP F2 q → mutP F q ∨ w.heap.size ≤ q) ∧ (∀ q, rdP F2 q → mutP F q ∨ rdP F q ∨ w.heap.size ≤ q) ∧ Turn (mutP F) w w4 from by
        obtain ⟨f1, f2, f3, f4, f5⟩ := HF.out
        have hsz := f5.size
        have hs2 := HB0.size
        refine ⟨e1.trans f1, e2.trans f2, fun q e => ?_, fun q e => ?_, (f5.trans (Turn.of_new (S := fun _ => False) HB0) fun _ e => e.elim).trans e5 f3⟩
        · rcases e3 q e with y | y
          · exact f3 q y
          · exact .inr (by omega)
        · rcases e4 q e with y | y | y
          · exact (f3 q y).imp id .inr
          · exact f4 q y
          · exact .inr (.inr (by omega)))
      have PP4 := hid (show Pp (RepK d) w4 g F2 k { b with ms := (dn ++ [crash st (pk.take m)]) ++ b.ms.drop (i + 1) } from by
        have h0 := hP4
        have : (dn ++ b.ms.drop i).set i (crash st (pk.take m)) = (dn ++ [crash st (pk.take m)]) ++ b.ms.drop (i + 1) := by
          rw [List.set_append_right _ _ (by omega), hdn, Nat.sub_self, List.drop_eq_getElem_cons hin, List.set_cons_zero, ← List.singleton_append, ← List.append_assoc]
        rw [← this]; exact h0)
      have HE4 := hid (show (dn ++ [crash st (pk.take m)]) ++ crashAll (b.ms.drop (i + 1)) (pk.drop m) = crashAll b.ms picks from by
        have e9 : b.ms[i] = st := by have := List.getElem?_eq_getElem hin; rw [HST.out] at this; exact (Option.some.inj this).symm
        rw [← HE.out, List.drop_eq_getElem_cons hin, crashAll, List.append_assoc, List.singleton_append, e9, htk.out, hdk.out])
      clear ho ho2 hP4 e1 e2 e3 e4 e5 HB0 R2 P2 A2 hpkS hok
      go_upto_region 5 with fail
      go_wp2_with ((with_reducible apply wslF1); rfl; rfl; exact A4.out; exact hmn; intro A5 hA5 hp5)
      have A5h := hid (show Arg w4 A5 (pk.drop m) (n' - m) (c' - m) ∧ ∀ q o, 0 < (pk.drop m).length → A5 = some ⟨q, o, none⟩ → ¬ mutP F q ∧ q < w.heap.size from ⟨hA5, fun q o h1 h2 => by
        have hl := hpl.out
        rw [List.length_drop] at h1
        obtain ⟨o', h3⟩ := hp5 q o (by omega) h2
        exact HAr.out.2 q o' (by omega) h3⟩)
      clear hA5 hp5
      go_roundw
      case rel => exact ⟨i + 1, A5, n' - m, c' - m, pk.drop m, F2, dn ++ [crash st (pk.take m)], rfl, by go_num, by omega, by omega, by rw [List.length_append, hdn]; rfl, HE4, A5h, PP4, F4⟩
      case measure => simp [intOf] <;> omega
    · have t1 : decide ((i : Int) < (b.ms.length : Int)) = false := by simp; omega
      obtain rfl : i = b.ms.length := by omega
      have HO := hid (show outQ (RepK d) w g F k { b with ms := crashAll b.ms picks, off := true } (wo.setCell ⟨g, 4, none⟩ (.bool true)) from by
        have h1 := HE.out
        have h2 := HPp.out
        rw [List.drop_length, crashAll, List.append_nil] at h1
        rw [List.drop_length, List.append_nil, h1] at h2
        obtain ⟨f1, f2, f3, f4, f5⟩ := HF.out
        exact outQ.trans f1 f2 f3 f4 f5 (h2.offed true))
      obtain ⟨A', c1, r', vl', Fm', K', _⟩ := HPp.out.skel
      have p4 := pb_off K'.blk
      have fz := K'.blk.frozen 4
      clear K' HPp HE HF HAr
      go_wp2_with fail
      refine bodyPost_end (results_none rfl _ _ _) rfl ?_
      exact ⟨rfl, HO.out⟩
end
end BuP
end Go.Proofs.YtklmjdhhnnanoaaGreatDoor
set_option maxRecDepth 100000
namespace Go.Proofs.YtklmjdhhnnanoaaGreatDoor
open Go.ChangeShapes Go.WideShapes Go.ChangeAt Go.RowKit
attribute [local go_sem] Gives GivesE
namespace BuP
open BuM MbM MbP MpV
section
variable {w w' w2 : World} {d g k k2 : Nat} {F : Fq} {b b2 : Bs}
theorem outQ.behind {rB : RepB} (hb : Below w.heap.size w w') (h : outQ rB w' g F k2 b2 w2) : outQ rB w g F k2 b2 w2 := outQ.trans rfl rfl (fun _ e => .inl e) (fun _ e => .inr (.inl e)) (Turn.of_new hb) h
theorem outQ.ahead (h : outQ (RepK d) w g F k b w') (hb : Below w'.heap.size w' w2) : outQ (RepK d) w g F k b w2 := by
  obtain ⟨F', h1, h2, h3, h4, h5, h6⟩ := h
  exact ⟨F', h1.belowK hb, h2, h3, h4, h5, h6.trans (Turn.of_new (S := fun _ => False) hb) fun _ e => e.elim⟩
theorem Pp.none (H : Pp (RepK d) w g F k b) (hb : Below w.heap.size w w') : outQ (RepK d) w g F (k + 1) b w' := (outQ.same H hb).mono (Nat.le_succ _)
theorem mem_nat {l : List St} {m : Int} (h : mem l m = true) : ∃ mi : Nat, m = mi ∧ mi < l.length := by
  unfold mem at h
  rw [decide_eq_true_eq] at h
  obtain ⟨mi, rfl⟩ : ∃ mi : Nat, m = mi := Int.eq_ofNat_of_zero_le h.1
  exact ⟨mi, rfl, by omega⟩
theorem mem_not {l : List St} {m : Int} (h : ¬ mem l m = true) : ¬ (0 ≤ m ∧ m < (l.length : Int)) := by
  unfold mem at h
  rw [decide_eq_true_eq] at h
  exact h
set_option maxHeartbeats 600000 in
set_option maxRecDepth 100000 in
theorem lb_act1 (H : Pp (RepK d) w g F k b) (hk : k ≤ 200000) (y : Stp × SlB) (hs : okS y.1) : Calls Tryz.prog 158 #[MbP.at' g, .agg (stL y).toArray] w fun e w' => e = .returned (.tuple #[]) ∧ outQ (RepK d) w g F (k + 1) { b with ms := if mem b.ms y.1.m then b.ms.set y.1.m.toNat (seT (BuM.at' b.ms y.1.m) y.1.i y.1.s) else b.ms } w' := by
  obtain ⟨⟨sa, kd, sm, si, sn, sd, pk⟩, x⟩ := y
  have HH := hid H
  have HS := hid hs
  have hps := H.pos
  clear H hs
  unfold MbP.at'
  go_enter Tryz.func158, Tryz.ntmps158
  go_upto_region 1 with fail
  generalize hw1 : World.alloc w _ = w1
  obtain ⟨gS, hgS⟩ : ∃ n, n = w.heap.size := ⟨_, rfl⟩
  have b1 := hid (show Blk w1 gS 95 (stL (⟨sa, kd, sm, si, sn, sd, pk⟩, x)).toArray by rw [← hw1, hgS]; exact Blk.new _ _ _)
  have BEL := hid (show Below w.heap.size w w1 by rw [← hw1]; exact (Below.refl _ _).alloc (Nat.le_refl _) _)
  rw [← hgS]
  clear hw1 hgS
  have H1 := hid (HH.out.belowK BEL.out)
  have bw := b1.out.whole
  have qm : w1.cell? ⟨gS, 2, none⟩ = some (.int .i64 sm) := st_m (o := 0) bw
  have qi : w1.cell? ⟨gS, 3, none⟩ = some (.int .i64 si) := st_i (o := 0) bw
  have qn : w1.cell? ⟨gS, 4, none⟩ = some (.int .i64 sn) := st_n (o := 0) bw
  clear bw HH
  by_cases hm : mem b.ms sm = true
  · have HM := hid hm
    obtain ⟨mi, rfl, hmi⟩ := mem_nat hm
    obtain ⟨gi, st, A, c, bA, oA, h1, h2, h3, h4, h5, rfl, h7, _⟩ := H1.out.at hmi
    have R1 := hid h3
    have HGI := hid h1
    have hat : BuM.at' b.ms (mi : Int) = st := h4
    have HAT := hid hat
    have hok : st.ok := H1.out.ok.1 st (List.mem_of_getElem? h2)
    have HOK := hid hok
    clear hm h1 h2 h3 h4 hat hok
    refine wp_region_tail (C := fun w' => Below w1.heap.size w1 w') 8 (by kernel_rfl) (by kernel_rfl) (by kernel_rfl) (Below.refl _ _).drew ?_
    simp only [List.take_succ_cons, List.take_zero, List.drop_succ_cons, List.drop_zero]
    apply wpK_val
    · rfl
    · intro w' hw'
      go_simp
      first | exact rfl | exact ⟨rfl, hw'⟩
    simp only [Act.put, sqA, sqB, sqC]
    apply wpK_val
    · rfl
    · intro w' hw'
      go_simp
      first | exact rfl | exact ⟨rfl, hw'⟩
    simp only [Act.put, sqA, sqB, sqC]
    apply wpK_val
    · rfl
    · intro w' hw'
      have hcell := (hw'.cell (p := ⟨gS, 2, none⟩) (World.block_lt_of_cell? w1 _ qm)).trans qm
      go_simp
      first | exact rfl | exact ⟨rfl, hw'⟩
    simp only [Act.put, sqA, sqB, sqC]
    apply wpK_val
    · rfl
    · intro w' hw'
      go_simp
      exact (lb_in (w := w') ((hw'.cell (p := ⟨g, 0, none⟩) (World.block_lt_of_cell? w1 _ h5)).trans h5) hps hmi ((hw'.cell (p := ⟨bA, oA + mi, none⟩) (World.block_lt_of_cell? w1 _ h7)).trans h7)).mono fun e w2 h => ⟨h.1, h.2 ▸ hw'⟩
    simp only [Act.put, sqA, sqB, sqC]
    apply wpK_val
    · rfl
    · intro w' hw'
      go_simp
      first | exact rfl | exact ⟨rfl, hw'⟩
    simp only [Act.put, sqA, sqB, sqC]
    apply wpK_val
    · rfl
    · intro w' hw'
      have hcell := (hw'.cell (p := ⟨gS, 3, none⟩) (World.block_lt_of_cell? w1 _ qi)).trans qi
      go_simp
      first | exact rfl | exact ⟨rfl, hw'⟩
    simp only [Act.put, sqA, sqB, sqC]
    apply wpK_val
    · rfl
    · intro w' hw'
      go_simp
      first | exact rfl | exact ⟨rfl, hw'⟩
    simp only [Act.put, sqA, sqB, sqC]
    apply kldA tSe
    · rfl
    · rfl
    · exact fun w' hw' => st_s (o := 0) (x := (⟨sa, kd, _, si, sn, sd, pk⟩, x)) (b1.out.below hw' b1.out.lt).whole
    simp only [Act.put, sqA, sqB, sqC]
    intro w2 hC2
    have B2 := hid hC2
    have H2 := hid (H1.out.belowK hC2)
    have R2 := hid (MbP.memB_ok.frame R1.out (T := fun _ => False) (Turn.of_new hC2) fun _ _ e => e)
    clear hC2 h5 h7 R1 qm qi qn b1 H1
    go_wp2_with fail
    refine (MbP.memB_ok.set R2.out HOK.out (by omega) si sd HS.out.1).mono ?_
    rintro e w4 ⟨rfl, ho⟩
    have HO := hid (show outQ (RepK d) w g F (k + 1) { b with ms := if mem b.ms (mi : Int) = true then b.ms.set (mi : Int).toNat (seT (BuM.at' b.ms (mi : Int)) si sd) else b.ms } w4 from by
      rw [if_pos HM.out, HAT.out, Int.toNat_natCast]
      exact outQ.behind BEL.out (outQ.behind B2.out (Pp.put (repB := RepK d) (repK_fr d) H2.out HGI.out ho (Nat.le_succ _) (se_ok HOK.out _ HS.out.1))))
    clear ho H2 R2
    go_wp2_with fail
    refine bodyPost_end (results_none rfl _ _ _) rfl ?_
    exact ⟨rfl, by have h9 := HO.out; rw [if_pos HM.out, Int.toNat_natCast] at h9; exact h9⟩
  · have HM := hid hm
    obtain ⟨A, c, p0⟩ := H1.out.hd
    have hmn := mem_not hm
    clear hm
    refine wp_region_tail (C := fun w' => Below w1.heap.size w1 w') 8 (by kernel_rfl) (by kernel_rfl) (by kernel_rfl) (Below.refl _ _).drew ?_
    simp only [List.take_succ_cons, List.take_zero, List.drop_succ_cons, List.drop_zero]
    apply wpK_val
    · rfl
    · intro w' hw'
      go_simp
      first | exact rfl | exact ⟨rfl, hw'⟩
    simp only [Act.put, sqA, sqB, sqC]
    apply wpK_val
    · rfl
    · intro w' hw'
      go_simp
      first | exact rfl | exact ⟨rfl, hw'⟩
    simp only [Act.put, sqA, sqB, sqC]
    apply wpK_val
    · rfl
    · intro w' hw'
      have hcell := (hw'.cell (p := ⟨gS, 2, none⟩) (World.block_lt_of_cell? w1 _ qm)).trans qm
      go_simp
      first | exact rfl | exact ⟨rfl, hw'⟩
    simp only [Act.put, sqA, sqB, sqC]
    apply wpK_val
    · rfl
    · intro w' hw'
      go_simp
      exact (lb_out (w := w') ((hw'.cell (p := ⟨g, 0, none⟩) (World.block_lt_of_cell? w1 _ p0)).trans p0) hps hmn).mono fun e w2 h => ⟨h.1, h.2 ▸ hw'⟩
    simp only [Act.put, sqA, sqB, sqC]
    apply wpK_val
    · rfl
    · intro w' hw'
      go_simp
      first | exact rfl | exact ⟨rfl, hw'⟩
    simp only [Act.put, sqA, sqB, sqC]
    apply wpK_val
    · rfl
    · intro w' hw'
      have hcell := (hw'.cell (p := ⟨gS, 3, none⟩) (World.block_lt_of_cell? w1 _ qi)).trans qi
      go_simp
      first | exact rfl | exact ⟨rfl, hw'⟩
    simp only [Act.put, sqA, sqB, sqC]
    apply wpK_val
    · rfl
    · intro w' hw'
      go_simp
      first | exact rfl | exact ⟨rfl, hw'⟩
    simp only [Act.put, sqA, sqB, sqC]
    apply kldA tSe
    · rfl
    · rfl
    · exact fun w' hw' => st_s (o := 0) (x := (⟨sa, kd, _, si, sn, sd, pk⟩, x)) (b1.out.below hw' b1.out.lt).whole
    simp only [Act.put, sqA, sqB, sqC]
    intro w2 hC2
    have B2 := hid hC2
    clear hC2 p0 qm qi qn b1
    go_wp2_with fail
    refine (lb_setN si sd _).mono ?_
    rintro e w4 ⟨rfl, hb⟩
    have HO := hid (show outQ (RepK d) w g F (k + 1) { b with ms := if mem b.ms sm = true then b.ms.set sm.toNat (seT (BuM.at' b.ms sm) si sd) else b.ms } w4 from by
      rw [if_neg HM.out]
      exact outQ.behind BEL.out (H1.out.none (B2.out.trans (hb.mono B2.out.size))))
    clear hb H1
    go_wp2_with fail
    refine bodyPost_end (results_none rfl _ _ _) rfl ?_
    exact ⟨rfl, by have h9 := HO.out; rw [if_neg HM.out] at h9; exact h9⟩
set_option maxHeartbeats 600000 in
set_option maxRecDepth 100000 in
theorem lb_act2 (H : Pp (RepK d) w g F k b) (hk : k ≤ 200000) (y : Stp × SlB) (hs : okS y.1) : Calls Tryz.prog 159 #[MbP.at' g, .agg (stL y).toArray] w fun e w' => e = .returned (.tuple #[]) ∧ outQ (RepK d) w g F (k + 1) { b with ms := if mem b.ms y.1.m then b.ms.set y.1.m.toNat (mkT (BuM.at' b.ms y.1.m)) else b.ms } w' := by
  obtain ⟨⟨sa, kd, sm, si, sn, sd, pk⟩, x⟩ := y
  have HH := hid H
  have HS := hid hs
  have hps := H.pos
  clear H hs
  unfold MbP.at'
  go_enter Tryz.func159, Tryz.ntmps159
  go_upto_region 1 with fail
  generalize hw1 : World.alloc w _ = w1
  obtain ⟨gS, hgS⟩ : ∃ n, n = w.heap.size := ⟨_, rfl⟩
  have b1 := hid (show Blk w1 gS 95 (stL (⟨sa, kd, sm, si, sn, sd, pk⟩, x)).toArray by rw [← hw1, hgS]; exact Blk.new _ _ _)
  have BEL := hid (show Below w.heap.size w w1 by rw [← hw1]; exact (Below.refl _ _).alloc (Nat.le_refl _) _)
  rw [← hgS]
  clear hw1 hgS
  have H1 := hid (HH.out.belowK BEL.out)
  have bw := b1.out.whole
  have qm : w1.cell? ⟨gS, 2, none⟩ = some (.int .i64 sm) := st_m (o := 0) bw
  have qi : w1.cell? ⟨gS, 3, none⟩ = some (.int .i64 si) := st_i (o := 0) bw
  have qn : w1.cell? ⟨gS, 4, none⟩ = some (.int .i64 sn) := st_n (o := 0) bw
  clear bw HH
  by_cases hm : mem b.ms sm = true
  · have HM := hid hm
    obtain ⟨mi, rfl, hmi⟩ := mem_nat hm
    obtain ⟨gi, st, A, c, bA, oA, h1, h2, h3, h4, h5, rfl, h7, _⟩ := H1.out.at hmi
    have R1 := hid h3
    have HGI := hid h1
    have hat : BuM.at' b.ms (mi : Int) = st := h4
    have HAT := hid hat
    have hok : st.ok := H1.out.ok.1 st (List.mem_of_getElem? h2)
    have HOK := hid hok
    clear hm h1 h2 h3 h4 hat hok
    go_wp2_with fail
    refine (lb_in h5 hps hmi h7).mono ?_
    rintro e w' ⟨rfl, rfl⟩
    have B2 := hid (Below.refl w1.heap.size w1)
    have H2 := H1
    have R2 := R1
    clear h5 h7 R1 qm qi qn b1 H1
    go_wp2_with fail
    refine (MbP.memB_ok.mark R2.out HOK.out (by omega)).mono ?_
    rintro e w4 ⟨rfl, ho⟩
    have HO := hid (show outQ (RepK d) w g F (k + 1) { b with ms := if mem b.ms (mi : Int) = true then b.ms.set (mi : Int).toNat (mkT (BuM.at' b.ms (mi : Int))) else b.ms } w4 from by
      rw [if_pos HM.out, HAT.out, Int.toNat_natCast]
      exact outQ.behind BEL.out (outQ.behind B2.out (Pp.put (repB := RepK d) (repK_fr d) H2.out HGI.out ho (Nat.le_succ _) (mk_ok HOK.out))))
    clear ho H2 R2
    go_wp2_with fail
    refine bodyPost_end (results_none rfl _ _ _) rfl ?_
    exact ⟨rfl, by have h9 := HO.out; rw [if_pos HM.out, Int.toNat_natCast] at h9; exact h9⟩
  · have HM := hid hm
    obtain ⟨A, c, p0⟩ := H1.out.hd
    have hmn := mem_not hm
    clear hm
    go_wp2_with fail
    refine (lb_out p0 hps hmn).mono ?_
    rintro e w' ⟨rfl, rfl⟩
    have B2 := hid (Below.refl w1.heap.size w1)
    clear p0 qm qi qn b1
    go_wp2_with fail
    refine (lb_markN _).mono ?_
    rintro e w4 ⟨rfl, hb⟩
    have HO := hid (show outQ (RepK d) w g F (k + 1) { b with ms := if mem b.ms sm = true then b.ms.set sm.toNat (mkT (BuM.at' b.ms sm)) else b.ms } w4 from by
      rw [if_neg HM.out]
      exact outQ.behind BEL.out (H1.out.none (B2.out.trans (hb.mono B2.out.size))))
    clear hb H1
    go_wp2_with fail
    refine bodyPost_end (results_none rfl _ _ _) rfl ?_
    exact ⟨rfl, by have h9 := HO.out; rw [if_neg HM.out] at h9; exact h9⟩
set_option maxHeartbeats 600000 in
set_option maxRecDepth 100000 in
theorem lb_act3 (H : Pp (RepK d) w g F k b) (hk : k ≤ 200000) (y : Stp × SlB) (hs : okS y.1) : Calls Tryz.prog 161 #[MbP.at' g, .agg (stL y).toArray] w fun e w' => e = .returned (.tuple #[]) ∧ outQ (RepK d) w g F (k + 1) { b with ms := if mem b.ms y.1.m then b.ms.set y.1.m.toNat (bkT (BuM.at' b.ms y.1.m) y.1.n) else b.ms } w' := by
  obtain ⟨⟨sa, kd, sm, si, sn, sd, pk⟩, x⟩ := y
  have HH := hid H
  have HS := hid hs
  have hps := H.pos
  clear H hs
  unfold MbP.at'
  go_enter Tryz.func161, Tryz.ntmps161
  go_upto_region 1 with fail
  generalize hw1 : World.alloc w _ = w1
  obtain ⟨gS, hgS⟩ : ∃ n, n = w.heap.size := ⟨_, rfl⟩
  have b1 := hid (show Blk w1 gS 95 (stL (⟨sa, kd, sm, si, sn, sd, pk⟩, x)).toArray by rw [← hw1, hgS]; exact Blk.new _ _ _)
  have BEL := hid (show Below w.heap.size w w1 by rw [← hw1]; exact (Below.refl _ _).alloc (Nat.le_refl _) _)
  rw [← hgS]
  clear hw1 hgS
  have H1 := hid (HH.out.belowK BEL.out)
  have bw := b1.out.whole
  have qm : w1.cell? ⟨gS, 2, none⟩ = some (.int .i64 sm) := st_m (o := 0) bw
  have qi : w1.cell? ⟨gS, 3, none⟩ = some (.int .i64 si) := st_i (o := 0) bw
  have qn : w1.cell? ⟨gS, 4, none⟩ = some (.int .i64 sn) := st_n (o := 0) bw
  clear bw HH
  by_cases hm : mem b.ms sm = true
  · have HM := hid hm
    obtain ⟨mi, rfl, hmi⟩ := mem_nat hm
    obtain ⟨gi, st, A, c, bA, oA, h1, h2, h3, h4, h5, rfl, h7, _⟩ := H1.out.at hmi
    have R1 := hid h3
    have HGI := hid h1
    have hat : BuM.at' b.ms (mi : Int) = st := h4
    have HAT := hid hat
    have hok : st.ok := H1.out.ok.1 st (List.mem_of_getElem? h2)
    have HOK := hid hok
    clear hm h1 h2 h3 h4 hat hok
    refine wp_region_tail (C := fun w' => Below w1.heap.size w1 w') 6 (by kernel_rfl) (by kernel_rfl) (by kernel_rfl) (Below.refl _ _).drew ?_
    simp only [List.take_succ_cons, List.take_zero, List.drop_succ_cons, List.drop_zero]
    apply wpK_val
    · rfl
    · intro w' hw'
      go_simp
      first | exact rfl | exact ⟨rfl, hw'⟩
    simp only [Act.put, sqA, sqB, sqC]
    apply wpK_val
    · rfl
    · intro w' hw'
      go_simp
      first | exact rfl | exact ⟨rfl, hw'⟩
    simp only [Act.put, sqA, sqB, sqC]
    apply wpK_val
    · rfl
    · intro w' hw'
      have hcell := (hw'.cell (p := ⟨gS, 2, none⟩) (World.block_lt_of_cell? w1 _ qm)).trans qm
      go_simp
      first | exact rfl | exact ⟨rfl, hw'⟩
    simp only [Act.put, sqA, sqB, sqC]
    apply wpK_val
    · rfl
    · intro w' hw'
      go_simp
      exact (lb_in (w := w') ((hw'.cell (p := ⟨g, 0, none⟩) (World.block_lt_of_cell? w1 _ h5)).trans h5) hps hmi ((hw'.cell (p := ⟨bA, oA + mi, none⟩) (World.block_lt_of_cell? w1 _ h7)).trans h7)).mono fun e w2 h => ⟨h.1, h.2 ▸ hw'⟩
    simp only [Act.put, sqA, sqB, sqC]
    apply wpK_val
    · rfl
    · intro w' hw'
      go_simp
      first | exact rfl | exact ⟨rfl, hw'⟩
    simp only [Act.put, sqA, sqB, sqC]
    apply wpK_val
    · rfl
    · intro w' hw'
      have hcell := (hw'.cell (p := ⟨gS, 4, none⟩) (World.block_lt_of_cell? w1 _ qn)).trans qn
      go_simp
      first | exact rfl | exact ⟨rfl, hw'⟩
    simp only [Act.put, sqA, sqB, sqC]
    intro w2 hC2
    have B2 := hid hC2
    have H2 := hid (H1.out.belowK hC2)
    have R2 := hid (MbP.memB_ok.frame R1.out (T := fun _ => False) (Turn.of_new hC2) fun _ _ e => e)
    clear hC2 h5 h7 R1 qm qi qn b1 H1
    go_wp2_with fail
    refine (MbP.memB_ok.back R2.out HOK.out (by omega) sn).mono ?_
    rintro e w4 ⟨rfl, ho⟩
    have HO := hid (show outQ (RepK d) w g F (k + 1) { b with ms := if mem b.ms (mi : Int) = true then b.ms.set (mi : Int).toNat (bkT (BuM.at' b.ms (mi : Int)) sn) else b.ms } w4 from by
      rw [if_pos HM.out, HAT.out, Int.toNat_natCast]
      exact outQ.behind BEL.out (outQ.behind B2.out (Pp.put (repB := RepK d) (repK_fr d) H2.out HGI.out ho (Nat.le_succ _) (bk_ok HOK.out _))))
    clear ho H2 R2
    go_wp2_with fail
    refine bodyPost_end (results_none rfl _ _ _) rfl ?_
    exact ⟨rfl, by have h9 := HO.out; rw [if_pos HM.out, Int.toNat_natCast] at h9; exact h9⟩
  · have HM := hid hm
    obtain ⟨A, c, p0⟩ := H1.out.hd
    have hmn := mem_not hm
    clear hm
    refine wp_region_tail (C := fun w' => Below w1.heap.size w1 w') 6 (by kernel_rfl) (by kernel_rfl) (by kernel_rfl) (Below.refl _ _).drew ?_
    simp only [List.take_succ_cons, List.take_zero, List.drop_succ_cons, List.drop_zero]
    apply wpK_val
    · rfl
    · intro w' hw'
      go_simp
      first | exact rfl | exact ⟨rfl, hw'⟩
    simp only [Act.put, sqA, sqB, sqC]
    apply wpK_val
    · rfl
    · intro w' hw'
      go_simp
      first | exact rfl | exact ⟨rfl, hw'⟩
    simp only [Act.put, sqA, sqB, sqC]
    apply wpK_val
    · rfl
    · intro w' hw'
      have hcell := (hw'.cell (p := ⟨gS, 2, none⟩) (World.block_lt_of_cell? w1 _ qm)).trans qm
      go_simp
      first | exact rfl | exact ⟨rfl, hw'⟩
    simp only [Act.put, sqA, sqB, sqC]
    apply wpK_val
    · rfl
    · intro w' hw'
      go_simp
      exact (lb_out (w := w') ((hw'.cell (p := ⟨g, 0, none⟩) (World.block_lt_of_cell? w1 _ p0)).trans p0) hps hmn).mono fun e w2 h => ⟨h.1, h.2 ▸ hw'⟩
    simp only [Act.put, sqA, sqB, sqC]
    apply wpK_val
    · rfl
    · intro w' hw'
      go_simp
      first | exact rfl | exact ⟨rfl, hw'⟩
    simp only [Act.put, sqA, sqB, sqC]
    apply wpK_val
    · rfl
    · intro w' hw'
      have hcell := (hw'.cell (p := ⟨gS, 4, none⟩) (World.block_lt_of_cell? w1 _ qn)).trans qn
      go_simp
      first | exact rfl | exact ⟨rfl, hw'⟩
    simp only [Act.put, sqA, sqB, sqC]
    intro w2 hC2
    have B2 := hid hC2
    clear hC2 p0 qm qi qn b1
    go_wp2_with fail
    refine (MbO.backN sn _).mono ?_
    rintro e w4 ⟨rfl, hb⟩
    have HO := hid (show outQ (RepK d) w g F (k + 1) { b with ms := if mem b.ms sm = true then b.ms.set sm.toNat (bkT (BuM.at' b.ms sm) sn) else b.ms } w4 from by
      rw [if_neg HM.out]
      exact outQ.behind BEL.out (H1.out.none (B2.out.trans (hb.mono B2.out.size))))
    clear hb H1
    go_wp2_with fail
    refine bodyPost_end (results_none rfl _ _ _) rfl ?_
    exact ⟨rfl, by have h9 := HO.out; rw [if_neg HM.out] at h9; exact h9⟩
set_option maxHeartbeats 600000 in
set_option maxRecDepth 100000 in
theorem lb_act4 (H : Pp (RepK d) w g F k b) (_hk : k ≤ 200000) (y : Stp × SlB) (hs : okS y.1) : Calls Tryz.prog 163 #[MbP.at' g, .agg (stL y).toArray] w fun e w' => e = .returned (.tuple #[]) ∧ outQ (RepK d) w g F (k + 1) { b with ms := if mem b.ms y.1.m then b.ms.set y.1.m.toNat (fail (BuM.at' b.ms y.1.m) true) else b.ms } w' := by
  obtain ⟨⟨sa, kd, sm, si, sn, sd, pk⟩, x⟩ := y
  have HH := hid H
  have HS := hid hs
  have hps := H.pos
  clear H hs
  unfold MbP.at'
  go_enter Tryz.func163, Tryz.ntmps163
  go_upto_region 1 with fail
  generalize hw1 : World.alloc w _ = w1
  obtain ⟨gS, hgS⟩ : ∃ n, n = w.heap.size := ⟨_, rfl⟩
  have b1 := hid (show Blk w1 gS 95 (stL (⟨sa, kd, sm, si, sn, sd, pk⟩, x)).toArray by rw [← hw1, hgS]; exact Blk.new _ _ _)
  have BEL := hid (show Below w.heap.size w w1 by rw [← hw1]; exact (Below.refl _ _).alloc (Nat.le_refl _) _)
  rw [← hgS]
  clear hw1 hgS
  have H1 := hid (HH.out.belowK BEL.out)
  have bw := b1.out.whole
  have qm : w1.cell? ⟨gS, 2, none⟩ = some (.int .i64 sm) := st_m (o := 0) bw
  have qi : w1.cell? ⟨gS, 3, none⟩ = some (.int .i64 si) := st_i (o := 0) bw
  have qn : w1.cell? ⟨gS, 4, none⟩ = some (.int .i64 sn) := st_n (o := 0) bw
  clear bw HH
  by_cases hm : mem b.ms sm = true
  · have HM := hid hm
    obtain ⟨mi, rfl, hmi⟩ := mem_nat hm
    obtain ⟨gi, st, A, c, bA, oA, h1, h2, h3, h4, h5, rfl, h7, _⟩ := H1.out.at hmi
    have R1 := hid h3
    have HGI := hid h1
    have hat : BuM.at' b.ms (mi : Int) = st := h4
    have HAT := hid hat
    have hok : st.ok := H1.out.ok.1 st (List.mem_of_getElem? h2)
    have HOK := hid hok
    clear hm h1 h2 h3 h4 hat hok
    go_wp2_with fail
    refine (lb_in h5 hps hmi h7).mono ?_
    rintro e w' ⟨rfl, rfl⟩
    have B2 := hid (Below.refl w1.heap.size w1)
    have H2 := H1
    have R2 := R1
    clear h5 h7 R1 qm qi qn b1 H1
    go_wp2_with fail
    refine (MbP.memB_ok.fail R2.out true).mono ?_
    rintro e w4 ⟨rfl, ho⟩
    have HO := hid (show outQ (RepK d) w g F (k + 1) { b with ms := if mem b.ms (mi : Int) = true then b.ms.set (mi : Int).toNat (fail (BuM.at' b.ms (mi : Int)) true) else b.ms } w4 from by
      rw [if_pos HM.out, HAT.out, Int.toNat_natCast]
      exact outQ.behind BEL.out (outQ.behind B2.out (Pp.put (repB := RepK d) (repK_fr d) H2.out HGI.out ho (Nat.le_succ _) (fa_ok HOK.out _))))
    clear ho H2 R2
    go_wp2_with fail
    refine bodyPost_end (results_none rfl _ _ _) rfl ?_
    exact ⟨rfl, by have h9 := HO.out; rw [if_pos HM.out, Int.toNat_natCast] at h9; exact h9⟩
  · have HM := hid hm
    obtain ⟨A, c, p0⟩ := H1.out.hd
    have hmn := mem_not hm
    clear hm
    go_wp2_with fail
    refine (lb_out p0 hps hmn).mono ?_
    rintro e w' ⟨rfl, rfl⟩
    have B2 := hid (Below.refl w1.heap.size w1)
    clear p0 qm qi qn b1
    go_wp2_with fail
    refine (lb_failN true _).mono ?_
    rintro e w4 ⟨rfl, hb⟩
    have HO := hid (show outQ (RepK d) w g F (k + 1) { b with ms := if mem b.ms sm = true then b.ms.set sm.toNat (fail (BuM.at' b.ms sm) true) else b.ms } w4 from by
      rw [if_neg HM.out]
      exact outQ.behind BEL.out (H1.out.none (B2.out.trans (hb.mono B2.out.size))))
    clear hb H1
    go_wp2_with fail
    refine bodyPost_end (results_none rfl _ _ _) rfl ?_
    exact ⟨rfl, by have h9 := HO.out; rw [if_neg HM.out] at h9; exact h9⟩
set_option maxHeartbeats 600000 in
set_option maxRecDepth 100000 in
theorem lb_act5 (H : Pp (RepK d) w g F k b) (_hk : k ≤ 200000) (y : Stp × SlB) (hs : okS y.1) : Calls Tryz.prog 164 #[MbP.at' g, .agg (stL y).toArray] w fun e w' => e = .returned (.tuple #[]) ∧ outQ (RepK d) w g F (k + 1) { b with ms := if mem b.ms y.1.m then b.ms.set y.1.m.toNat (fail (BuM.at' b.ms y.1.m) false) else b.ms } w' := by
  obtain ⟨⟨sa, kd, sm, si, sn, sd, pk⟩, x⟩ := y
  have HH := hid H
  have HS := hid hs
  have hps := H.pos
  clear H hs
  unfold MbP.at'
  go_enter Tryz.func164, Tryz.ntmps164
  go_upto_region 1 with fail
  generalize hw1 : World.alloc w _ = w1
  obtain ⟨gS, hgS⟩ : ∃ n, n = w.heap.size := ⟨_, rfl⟩
  have b1 := hid (show Blk w1 gS 95 (stL (⟨sa, kd, sm, si, sn, sd, pk⟩, x)).toArray by rw [← hw1, hgS]; exact Blk.new _ _ _)
  have BEL := hid (show Below w.heap.size w w1 by rw [← hw1]; exact (Below.refl _ _).alloc (Nat.le_refl _) _)
  rw [← hgS]
  clear hw1 hgS
  have H1 := hid (HH.out.belowK BEL.out)
  have bw := b1.out.whole
  have qm : w1.cell? ⟨gS, 2, none⟩ = some (.int .i64 sm) := st_m (o := 0) bw
  have qi : w1.cell? ⟨gS, 3, none⟩ = some (.int .i64 si) := st_i (o := 0) bw
  have qn : w1.cell? ⟨gS, 4, none⟩ = some (.int .i64 sn) := st_n (o := 0) bw
  clear bw HH
  by_cases hm : mem b.ms sm = true
  · have HM := hid hm
    obtain ⟨mi, rfl, hmi⟩ := mem_nat hm
    obtain ⟨gi, st, A, c, bA, oA, h1, h2, h3, h4, h5, rfl, h7, _⟩ := H1.out.at hmi
    have R1 := hid h3
    have HGI := hid h1
    have hat : BuM.at' b.ms (mi : Int) = st := h4
    have HAT := hid hat
    have hok : st.ok := H1.out.ok.1 st (List.mem_of_getElem? h2)
    have HOK := hid hok
    clear hm h1 h2 h3 h4 hat hok
    go_wp2_with fail
    refine (lb_in h5 hps hmi h7).mono ?_
    rintro e w' ⟨rfl, rfl⟩
    have B2 := hid (Below.refl w1.heap.size w1)
    have H2 := H1
    have R2 := R1
    clear h5 h7 R1 qm qi qn b1 H1
    go_wp2_with fail
    refine (MbP.memB_ok.fail R2.out false).mono ?_
    rintro e w4 ⟨rfl, ho⟩
    have HO := hid (show outQ (RepK d) w g F (k + 1) { b with ms := if mem b.ms (mi : Int) = true then b.ms.set (mi : Int).toNat (fail (BuM.at' b.ms (mi : Int)) false) else b.ms } w4 from by
      rw [if_pos HM.out, HAT.out, Int.toNat_natCast]
      exact outQ.behind BEL.out (outQ.behind B2.out (Pp.put (repB := RepK d) (repK_fr d) H2.out HGI.out ho (Nat.le_succ _) (fa_ok HOK.out _))))
    clear ho H2 R2
    go_wp2_with fail
    refine bodyPost_end (results_none rfl _ _ _) rfl ?_
    exact ⟨rfl, by have h9 := HO.out; rw [if_pos HM.out, Int.toNat_natCast] at h9; exact h9⟩
  · have HM := hid hm
    obtain ⟨A, c, p0⟩ := H1.out.hd
    have hmn := mem_not hm
    clear hm
    go_wp2_with fail
    refine (lb_out p0 hps hmn).mono ?_
    rintro e w' ⟨rfl, rfl⟩
    have B2 := hid (Below.refl w1.heap.size w1)
    clear p0 qm qi qn b1
    go_wp2_with fail
    refine (lb_failN false _).mono ?_
    rintro e w4 ⟨rfl, hb⟩
    have HO := hid (show outQ (RepK d) w g F (k + 1) { b with ms := if mem b.ms sm = true then b.ms.set sm.toNat (fail (BuM.at' b.ms sm) false) else b.ms } w4 from by
      rw [if_neg HM.out]
      exact outQ.behind BEL.out (H1.out.none (B2.out.trans (hb.mono B2.out.size))))
    clear hb H1
    go_wp2_with fail
    refine bodyPost_end (results_none rfl _ _ _) rfl ?_
    exact ⟨rfl, by have h9 := HO.out; rw [if_neg HM.out] at h9; exact h9⟩
set_option maxRecDepth 100000 in
theorem lb_act6 (H : Pp (RepK d) w g F k b) (hk : k ≤ 200000) (y : Stp × SlB) (HP : Arg w y.2.A y.1.picks y.1.picks.length y.2.c) (hpm : y.1.picks.length ≤ 140737488351232) (hPS : ∀ q o, 0 < y.1.picks.length → y.2.A = some ⟨q, o, none⟩ → ¬ mutP F q ∧ q < w.heap.size) :
    Calls Tryz.prog 165 #[MbP.at' g, .agg (stL y).toArray] w fun e w' => e = .returned (.tuple #[]) ∧ outQ (RepK d) w g F (k + 1) { b with ms := crashAll b.ms y.1.picks, off := true } w' := by
  obtain ⟨⟨sa, kd, sm, si, sn, sd, pk⟩, x⟩ := y
  have HH := hid H
  have HA := hid HP
  have HS := hid hPS
  have hpm' : pk.length ≤ 140737488351232 := hpm
  clear H HP hPS hpm
  unfold MbP.at'
  go_enter Tryz.func165, Tryz.ntmps165
  go_upto_region 1 with fail
  generalize hw1 : World.alloc w _ = w1
  obtain ⟨gS, hgS⟩ : ∃ n, n = w.heap.size := ⟨_, rfl⟩
  have b1 := hid (show Blk w1 gS 95 (stL (⟨sa, kd, sm, si, sn, sd, pk⟩, x)).toArray by rw [← hw1, hgS]; exact Blk.new _ _ _)
  have BEL := hid (show Below w.heap.size w w1 by rw [← hw1]; exact (Below.refl _ _).alloc (Nat.le_refl _) _)
  rw [← hgS]
  clear hw1 hgS
  have H1 := hid (HH.out.belowK BEL.out)
  have A1 := hid (HA.out.on BEL.out)
  have qp : w1.cell? ⟨gS, 69, none⟩ = some (.slice x.A pk.length x.c) := st_p (o := 0) (x := (⟨sa, kd, sm, si, sn, sd, pk⟩, x)) b1.out.whole
  clear HH HA b1
  go_wp2_with fail
  refine (lb_crash H1.out hk A1.out hpm' fun q o h1 h2 => ⟨(HS.out q o h1 h2).1, Nat.lt_of_lt_of_le (HS.out q o h1 h2).2 BEL.out.size⟩).mono ?_
  rintro e w4 ⟨rfl, ho⟩
  have HO := hid ((outQ.behind BEL.out ho).mono (Nat.le_succ _))
  clear ho H1 A1 qp
  go_wp2_with fail
  refine bodyPost_end (results_none rfl _ _ _) rfl ?_
  exact ⟨rfl, HO.out⟩
end
end BuP
end Go.Proofs.YtklmjdhhnnanoaaGreatDoor
set_option maxRecDepth 100000
namespace Go.Proofs.YtklmjdhhnnanoaaGreatDoor
open Go.ChangeShapes Go.WideShapes Go.ChangeAt Go.RowKit
attribute [local go_sem] Gives GivesE
namespace BuP
open BuM MbM MbP MpV
def fnV (f : FuncId) : Value := .func (.func f) #[] #[]
def acV : Array Value := #[.nilFunc, fnV 158, fnV 159, fnV 161, fnV 163, fnV 164, fnV 165]
theorem und_ac : Tryz.prog.underlying 224 = some (.slice 226) := Tryz.underlying224
theorem run_acts (w : World) : (Instr.buildSlice 224 7 #[(1, fnV 158), (2, fnV 159), (3, fnV 161), (4, fnV 163), (5, fnV 164), (6, fnV 165)]).run Tryz.prog w =
    .ok (.slice (some ⟨w.heap.size, 0, none⟩) 7 7) (w.alloc (.cells acV 226)) := by
  have h1 : (Tryz.prog.info? 226).map (·.size) = some 1 := by kernel_rfl
  have h3 : (Tryz.prog.info? 226).bind (·.zero) = some .nilFunc := by kernel_rfl
  cases hi : Tryz.prog.info? 226 with
  | none => rw [hi] at h1; cases h1
  | some i =>
    rw [hi] at h1 h3
    simp only [Option.map_some, Option.some.injEq, Option.bind_some] at h1 h3
    exact run_buildSlice w _ _ 7 _ _ i _ und_ac hi h3 (by rw [h1]; omega) (by rw [h1]; omega) (by rw [h1]; kernel_rfl)
section
variable {ops : Array Oper} {Q : Exit → Act → World → Prop} {a : Act} {w : World} {rest : List Oper} {dst : Option Tmp} {ty : TypeId} {pos : String} {after : Array Edge} {m x : Operand} {r : Nat} {i : Int} {F : MpV.Img}
theorem wacts (h : wpList Tryz.prog ops Q rest (a.put dst (.slice (some ⟨w.heap.size, 0, none⟩) 7 7)) (w.alloc (.cells acV 226))) :
    wpList Tryz.prog ops Q (⟨dst, .buildSlice 224 7 #[(1, .func 158), (2, .func 159), (3, .func 161), (4, .func 163), (5, .func 164), (6, .func 165)], ty, pos, after, none⟩ :: rest) a w := by
  refine wpList_plain rfl fun K hK => ?_
  unfold Oper.wp execOp
  have hr := run_acts w
  unfold fnV at hr
  simp only [Sem.run_bind, List.map_toArray, List.map_cons, List.map_nil, Act.eval, hr, Result.andThen_ok, Sem.run_pure]
  exact hK _ _ h
theorem wlookV (hm : a.eval m = .map (some r)) (hx : a.eval x = .int .i64 i) (hF : MapV w r F) (h : wpList Tryz.prog ops Q rest (a.put dst (F i)) w) :
    wpList Tryz.prog ops Q (⟨dst, .lookup 115 m x false, ty, pos, after, none⟩ :: rest) a w := by
  refine wpList_plain rfl fun K hK => ?_
  unfold Oper.wp execOp
  simp only [Sem.run_bind, hm, hx, MpV.run_look hF i, Result.andThen_ok, Sem.run_pure]
  exact hK _ _ h
theorem wdelV (hm : a.eval m = .map (some r)) (hx : a.eval x = .int .i64 i) (hF : MapV w r F) (h : ∀ w', MapV w' r (MpV.upd F i MpV.zero) → Turn (fun b => b = r) w w' → wpList Tryz.prog ops Q rest (a.put dst (.tuple #[])) w') :
    wpList Tryz.prog ops Q (⟨dst, .call { callee := .builtin .delete, args := #[m, x], argTypes := #[115, 3] }, ty, pos, after, none⟩ :: rest) a w := by
  obtain ⟨w', hr, h1, h2⟩ := MpV.run_del (ty := ty) hF i
  refine wpList_plain rfl fun K hK => ?_
  unfold Oper.wp execOp
  simp only [resolve, invoke, builtin, Sem.run_bind, Sem.run_pure, Result.andThen_ok, List.map_toArray, List.map_cons, List.map_nil, hm, hx, hr]
  exact hK _ _ (h w' h1 h2)
end
theorem lb_acts (w : World) : Calls Tryz.prog 146 #[] w fun e w' => ∃ gA, e = .returned (.slice (some ⟨gA, 0, none⟩) 7 7) ∧ Blk w' gA 226 acV ∧ w.heap.size ≤ gA ∧ Below w.heap.size w w' := by
  go_enter Tryz.func146, Tryz.ntmps146
  go_wp2_with (with_reducible apply wacts)
  go_ret
  exact ⟨_, rfl, Blk.new _ _ _, Nat.le_refl _, (Below.refl _ _).alloc (Nat.le_refl _) _⟩
theorem lb_setAt {l : List St} {m : Int} : l.set m.toNat (BuM.at' l m) = l := by
  unfold BuM.at'
  apply List.ext_getElem?
  intro j
  by_cases e : m.toNat = j
  · subst e
    by_cases h : m.toNat < l.length
    · rw [List.getElem?_set_self h, List.getD_eq_getElem?_getD, List.getElem?_eq_getElem h]; rfl
    · rw [List.getElem?_eq_none (by rw [List.length_set]; omega), List.getElem?_eq_none (by omega)]
  · rw [List.getElem?_set_ne e]
theorem hand_odd {now : Nat} {s : Stp} {x : List St × Bool} (h : ¬ (1 ≤ s.kind ∧ s.kind < 7)) : hand now s x = x := by
  unfold hand
  split
  · rw [if_neg (by omega)]
    split
    · have : deed s (BuM.at' x.1 s.m) = BuM.at' x.1 s.m := by
        unfold deed
        rw [if_neg (by omega), if_neg (by omega), if_neg (by omega), if_neg (by omega), if_neg (by omega)]
      rw [this, lb_setAt]
    · rfl
  · rfl
theorem lb_act {w : World} {d g k : Nat} {F : Fq} {b : Bs} (H : Pp (RepK d) w g F k b) (hk : k ≤ 200000) (y : Stp × SlB) (hs : okS y.1) (HP : Arg w y.2.A y.1.picks y.1.picks.length y.2.c) (hpm : y.1.picks.length ≤ 140737488351232) (hPS : ∀ q o, 0 < y.1.picks.length → y.2.A = some ⟨q, o, none⟩ → ¬ mutP F q ∧ q < w.heap.size)
    {now : Nat} (ha : y.1.a = (now : Int)) {kd : Nat} (hkd : y.1.kind = (kd : Int)) (h1 : 1 ≤ kd) (h7 : kd < 7) :
    ∃ f, acV[kd]? = some (.func (.func f) #[] #[]) ∧ (∀ args w, (callFunc f args).run Tryz.prog w = .ok (.enter f args) w) ∧
      Calls Tryz.prog f #[MbP.at' g, .agg (stL y).toArray] w fun e w' => e = .returned (.tuple #[]) ∧ outQ (RepK d) w g F (k + 1) { b with ms := (hand now y.1 (b.ms, b.off)).1, off := (hand now y.1 (b.ms, b.off)).2 } w' := by
  have hh : ∀ st' : St → St, ¬ kd = 6 → (∀ st, deed y.1 st = st' st) → ({ b with ms := (hand now y.1 (b.ms, b.off)).1, off := (hand now y.1 (b.ms, b.off)).2 } : Bs) = { b with ms := if mem b.ms y.1.m then b.ms.set y.1.m.toNat (st' (BuM.at' b.ms y.1.m)) else b.ms } := fun st' h6 hd => by
    unfold hand
    rw [if_pos ha, if_neg (by omega)]
    split <;> simp only [hd]
  have hc : kd = 1 ∨ kd = 2 ∨ kd = 3 ∨ kd = 4 ∨ kd = 5 ∨ kd = 6 := by omega
  rcases hc with rfl | rfl | rfl | rfl | rfl | rfl
  · refine ⟨_, rfl, fun args w => by simp [callFunc, Tryz.func158, Tryz.f158], (lb_act1 H hk y hs).mono fun e w' h => ⟨h.1, ?_⟩⟩
    rw [hh (fun st => seT st y.1.i y.1.s) (by omega) fun st => by unfold deed; rw [if_pos (show y.1.kind = 1 from hkd)]]
    exact h.2
  · refine ⟨_, rfl, fun args w => by simp [callFunc, Tryz.func159, Tryz.f159], (lb_act2 H hk y hs).mono fun e w' h => ⟨h.1, ?_⟩⟩
    rw [hh (fun st => mkT st) (by omega) fun st => by unfold deed; rw [if_neg (by omega), if_pos (show y.1.kind = 2 from hkd)]]
    exact h.2
  · refine ⟨_, rfl, fun args w => by simp [callFunc, Tryz.func161, Tryz.f161], (lb_act3 H hk y hs).mono fun e w' h => ⟨h.1, ?_⟩⟩
    rw [hh (fun st => bkT st y.1.n) (by omega) fun st => by unfold deed; rw [if_neg (by omega), if_neg (by omega), if_pos (show y.1.kind = 3 from hkd)]]
    exact h.2
  · refine ⟨_, rfl, fun args w => by simp [callFunc, Tryz.func163, Tryz.f163], (lb_act4 H hk y hs).mono fun e w' h => ⟨h.1, ?_⟩⟩
    rw [hh (fun st => fail st true) (by omega) fun st => by unfold deed; rw [if_neg (by omega), if_neg (by omega), if_neg (by omega), if_pos (show y.1.kind = 4 from hkd)]]
    exact h.2
  · refine ⟨_, rfl, fun args w => by simp [callFunc, Tryz.func164, Tryz.f164], (lb_act5 H hk y hs).mono fun e w' h => ⟨h.1, ?_⟩⟩
    rw [hh (fun st => fail st false) (by omega) fun st => by unfold deed; rw [if_neg (by omega), if_neg (by omega), if_neg (by omega), if_neg (by omega), if_pos (show y.1.kind = 5 from hkd)]]
    exact h.2
  · refine ⟨_, rfl, fun args w => by simp [callFunc, Tryz.func165, Tryz.f165], (lb_act6 H hk y HP hpm hPS).mono fun e w' h => ⟨h.1, ?_⟩⟩
    have : hand now y.1 (b.ms, b.off) = (crashAll b.ms y.1.picks, true) := by unfold hand; rw [if_pos ha, if_pos (show y.1.kind = 6 from hkd)]
    rw [this]
    exact h.2
end BuP
end Go.Proofs.YtklmjdhhnnanoaaGreatDoor
set_option maxRecDepth 100000
namespace Go.Proofs.YtklmjdhhnnanoaaGreatDoor
open Go.ChangeShapes Go.WideShapes Go.ChangeAt Go.RowKit
attribute [local go_sem] Gives GivesE
namespace BuP
open BuM MbM MbP MpV
def stP0 : Stp × SlB := (⟨0, 0, 0, 0, 0, fun _ => 0, []⟩, ⟨none, 0⟩)
theorem zStP (w : World) : (zeroValue 95).run Tryz.prog w = .ok (.agg (stL stP0).toArray) w := (zero_of_info (P := Tryz.prog) (t := 95) (v := .agg (stL stP0).toArray) (n := 70) (by kernel_rfl)).1 w
theorem stP_size (x y : Stp × SlB) : (stL x).toArray.size = (stL y).toArray.size := by rw [List.size_toArray, List.size_toArray, stL_len, stL_len]
theorem stP_one (x : Stp × SlB) : (stL x).toArray.all (·.oneCell') = true := by
  rw [Array.all_eq_true_iff_forall_mem]
  intro u hu
  exact stL_one x u (by simpa using hu)
theorem hands_filter (now : Nat) : ∀ (l : List Stp) (x : List St × Bool), hands now (l.filter fun s => decide (s.a = (now : Int))) x = hands now l x
  | [], _ => rfl
  | s :: l, x => by
    rw [hands_cons, List.filter_cons]
    by_cases e : s.a = (now : Int)
    · rw [if_pos (by simpa using e), hands_cons, hands_filter now l]
    · rw [if_neg (by simpa using e), hands_filter now l]
      unfold hand
      rw [if_neg e]
theorem repK_struck {w w' : World} {g gc c r : Nat} {gs : List Nat} {A : Option Addr} {vl : Value} {Fm : MpV.Img} {S : Nat → Prop} {steps : List Stp} {off : Bool} {log : List BuM.Ent} (K : Sk 0 w g gs gc A c r vl Fm S steps off log) (hM : MapV w' r (MpV.upd Fm (log.length : Nat) MpV.zero)) (ht : Turn (fun b => b = r) w w') (hS : ¬ S r) :
    Sk 1 w' g gs gc A c r vl (MpV.upd Fm (log.length : Nat) MpV.zero) S steps off log where
  blk := K.blk.turn ht K.g_r
  pos := K.pos
  arr := K.arr.turn ht fun q hq _ e => hS (e ▸ hq)
  map := hM
  due n hn := by
    have : MpV.upd Fm (log.length : Nat) MpV.zero (n : Nat) = Fm (n : Nat) := by
      unfold MpV.upd
      rw [if_neg (by omega)]
    rw [this]
    exact (K.due n (by omega)).turn ht fun q hq e => hS (e ▸ hq)
  lg := K.lg.turn ht fun b e e2 => K.l_r (by rw [e, e2])
  slt q hq := Nat.lt_of_lt_of_le (K.slt q hq) ht.size
section
variable {w : World} {g k : Nat} {F : Fq} {b : Bs}
set_option maxHeartbeats 2000000 in
set_option maxRecDepth 100000 in
theorem lb_steps (H : Pp (RepK 0) w g F k b) (hk : k + b.steps.length ≤ 200000) : Calls Tryz.prog 137 #[MbP.at' g] w fun e w' => e = .returned (.tuple #[]) ∧ outQ (RepK 1) w g F (k + b.steps.length) (BuM.ahead b) w' := by
  have HH := hid H
  obtain ⟨A, c, r, vl, Fm, K, hMo⟩ := H.skel
  obtain ⟨Al, cl, rfl, _⟩ := K.lg.sli enL_len
  have p2 := pb_mp K.blk
  have p3 := pb_lg K.blk
  have MV := hid K.map
  obtain ⟨now, hnow⟩ : ∃ x, x = b.log.length := ⟨_, rfl⟩
  have HN := hid hnow
  obtain ⟨L, Ad, cd, hF, hL, sl, hL2⟩ := K.due now (by omega)
  have LL := hid hL
  have SLi := hid sl
  have LP := hid hL2
  have HF0 := hid hF
  have hLs : L.length ≤ b.steps.length := by have := congrArg List.length hL; rw [List.length_map] at this; rw [this]; exact List.length_filter_le _ _
  have hF' : Fm (now : Int) = .slice Ad L.length cd := by rw [hF, ← hL, List.length_map]
  have hsz := H.sz.2.1
  have HFF := hid hF'
  rw [← hnow] at p3
  clear K H hF hL sl hL2 hMo hnow
  unfold MbP.at'
  go_enter Tryz.func137, Tryz.ntmps137
  go_wp2_with ((with_reducible apply wlookV); rfl; rfl; exact MV.out; rw [hF'])
  clear p2 p3 hF'
  go_loopw [18] (fun u18 wr => ∃ (j : Nat) (F' : Fq) (ms' : List St) (off' : Bool), u18 = .int .i64 j ∧ j ≤ L.length ∧ Hid (hands now ((L.map (·.1)).take j) (b.ms, b.off) = (ms', off')) ∧ Hid (Pp (RepK 0) wr g F' (k + j) { b with ms := ms', off := off' }) ∧
    Hid (F'.gs = F.gs ∧ F'.gc = F.gc ∧ (∀ q, mutP F' q → mutP F q ∨ w.heap.size ≤ q) ∧ (∀ q, rdP F' q → mutP F q ∨ rdP F q ∨ w.heap.size ≤ q) ∧ Turn (mutP F) w wr)) (fun u18 _ => L.length - (intOf u18).toNat)
  case atStart => exact ⟨0, F, b.ms, b.off, rfl, Nat.zero_le _, hid rfl, HH, hid ⟨rfl, rfl, fun _ e => .inl e, fun _ e => .inr (.inl e), Turn.refl _ _⟩⟩
  case round =>
    obtain ⟨j, F', ms', off', rfl, hj, HE, HP, HF⟩ := hrel
    obtain ⟨wo, hwo⟩ : ∃ x, x = wr := ⟨_, rfl⟩
    subst hwo
    by_cases hjn : j < L.length
    · have t1 : (j : Int) < (L.length : Int) := by omega
      obtain ⟨y, hy⟩ : ∃ y, L[j]? = some y := ⟨_, List.getElem?_eq_getElem hjn⟩
      have HY := hid hy
      obtain ⟨bS, oS, rfl, hbS, hSl, hr⟩ := SLi.out.some hy
      have R1 := hid (HF.out.2.2.2.2.range hr fun e => HH.out.sep bS (.inl hbS) e)
      clear hr hy
      go_upto_region 4 with (first | ((with_reducible apply ldR (cs := (stL y).toArray) (tStP y)); rfl; exact R1.out) | (with_reducible apply alZ' zStP) | ((with_reducible apply stR (tStP y)); rfl; rfl; exact Blk.new _ _ _; exact stP_size _ _; exact stP_one _))
      generalize hw1 : World.setRow _ _ _ = w1
      obtain ⟨gS, hgS⟩ : ∃ n, n = wo.heap.size := ⟨_, rfl⟩
      have B1 := hid (show Below wo.heap.size wo w1 by rw [← hw1]; exact below_setRow ((Below.refl _ _).alloc (Nat.le_refl _) _) (Nat.le_refl _) _)
      have b1 := hid (show Blk w1 gS 95 (stL y).toArray by rw [← hw1, hgS]; exact (Blk.new wo _ _).setRow_same _)
      rw [← hgS]
      clear hw1 hgS R1
      go_wp2_with fail
      refine (lb_acts _).mono ?_
      rintro e w2 ⟨gA, rfl, bA, hgA, hB2⟩
      have BA := hid bA
      have B2 := hid (B1.out.trans (hB2.mono B1.out.size))
      have b2 := hid (b1.out.below hB2 b1.out.lt)
      have A2 := hid (HP.out.belowK B2.out)
      have hm := hid (List.mem_of_getElem? HY.out)
      have hsy := hid (show y.1 ∈ b.steps ∧ y.1.a = (now : Int) from by
        have h3 : y.1 ∈ L.map (·.1) := List.mem_map.2 ⟨y, hm.out, rfl⟩
        rw [LL.out, List.mem_filter] at h3
        exact ⟨h3.1, by simpa using h3.2⟩)
      have qk : w2.cell? ⟨gS, 1, none⟩ = some (.int .i64 y.1.kind) := st_k (o := 0) (x := y) b2.out.whole
      clear bA hB2 B1 b1 HP
      by_cases hv : 1 ≤ y.1.kind ∧ y.1.kind < 7
      · obtain ⟨kd, hkd⟩ : ∃ kd : Nat, y.1.kind = kd := Int.eq_ofNat_of_zero_le (by omega)
        have HK := hid hkd
        rw [hkd] at qk
        have hk1 : 1 ≤ kd := by omega
        have hk7 : kd < 7 := by omega
        have t2 : decide ((1 : Int) ≤ (kd : Int)) = true := by simp; omega
        have t3 : decide ((kd : Int) < 7) = true := by simp; omega
        have t4 : (kd : Int) < 7 := by omega
        clear hkd hv
        go_upto_region 6 with fail
        obtain ⟨f, hfa, hcf, hdo⟩ : ∃ f, acV[kd]? = some (.func (.func f) #[] #[]) ∧ (∀ args w, (callFunc f args).run Tryz.prog w = .ok (.enter f args) w) ∧ ∀ w3, Below w2.heap.size w2 w3 → Calls Tryz.prog f #[MbP.at' g, .agg (stL y).toArray] w3 fun e w' => e = .returned (.tuple #[]) ∧ outQ (RepK 0) w3 g F' (k + j + 1) { b with ms := (hand now y.1 (ms', off')).1, off := (hand now y.1 (ms', off')).2 } w' := by
          have lp := LP.out y hm.out
          have hT : ∀ q, F.Io q → ¬ mutP F' q := fun q e x => (HF.out.2.2.1 q x).elim (HH.out.sep q (.inl e)) fun z => by have := HH.out.olt q (.inr e); omega
          have hg : ∀ w3, Below w2.heap.size w2 w3 → Arg w3 y.2.A y.1.picks y.1.picks.length y.2.c ∧ ∀ q o, 0 < y.1.picks.length → y.2.A = some ⟨q, o, none⟩ → ¬ mutP F' q ∧ q < w3.heap.size := fun w3 hb3 => by
            have h1 := lp.1.turn HF.out.2.2.2.2 fun q o e1 e2 => HH.out.sep q (.inl (lp.2 q o e1 e2))
            exact ⟨(h1.on B2.out).on hb3, fun q o e1 e2 => ⟨hT q (lp.2 q o e1 e2), Nat.lt_of_lt_of_le (HH.out.olt q (.inr (lp.2 q o e1 e2))) (Nat.le_trans HF.out.2.2.2.2.size (Nat.le_trans B2.out.size hb3.size))⟩⟩
          have hok := HH.out.ok.2 y.1 hsy.out.1
          have hpl := HH.out.sz.2.2.2.2 y.1 hsy.out.1
          obtain ⟨h1, h2⟩ := hg w2 (Below.refl _ _)
          obtain ⟨f, e1, e2, _⟩ := lb_act A2.out (by omega) y hok h1 hpl h2 hsy.out.2 HK.out hk1 hk7
          refine ⟨f, e1, e2, fun w3 hb3 => ?_⟩
          obtain ⟨h1, h2⟩ := hg w3 hb3
          obtain ⟨f', e1', e2', h3⟩ := lb_act (A2.out.belowK hb3) (by omega) y hok h1 hpl h2 hsy.out.2 HK.out hk1 hk7
          rw [e1] at e1'
          cases e1'
          exact h3
        have qf : w2.cell? ⟨gA, kd, none⟩ = some (.func (.func f) #[] #[]) := by rw [BA.out.cell]; exact hfa
        have HDO := hid hdo
        clear hfa hdo
        refine wp_region_tail (C := fun w' => Below w2.heap.size w2 w') 7 (by kernel_rfl) (by kernel_rfl) (by kernel_rfl) (Below.refl _ _).drew ?_
        simp only [List.take_succ_cons, List.take_zero, List.drop_succ_cons, List.drop_zero]
        apply wpK_val
        · rfl
        · intro w' hw'
          go_simp
          first | exact rfl | exact ⟨rfl, hw'⟩
        simp only [Act.put, sqA, sqB, sqC]
        apply wpK_val
        · rfl
        · intro w' hw'
          go_simp
          first | exact rfl | exact ⟨rfl, hw'⟩
        simp only [Act.put, sqA, sqB, sqC]
        apply wpK_val
        · rfl
        · intro w' hw'
          have hcell := (hw'.cell (p := ⟨gS, 1, none⟩) (World.block_lt_of_cell? w2 _ qk)).trans qk
          go_simp
          first | exact rfl | exact ⟨rfl, hw'⟩
        simp only [Act.put, sqA, sqB, sqC]
        apply wpK_val
        · rfl
        · intro w' hw'
          go_simp
          first | exact rfl | exact ⟨rfl, hw'⟩
        simp only [Act.put, sqA, sqB, sqC]
        apply wpK_val
        · rfl
        · intro w' hw'
          have hcell := (hw'.cell (p := ⟨gA, kd, none⟩) (World.block_lt_of_cell? w2 _ qf)).trans qf
          go_simp
          first | exact rfl | exact ⟨rfl, hw'⟩
        simp only [Act.put, sqA, sqB, sqC]
        apply wpK_val
        · rfl
        · intro w' hw'
          go_simp
          first | exact rfl | exact ⟨rfl, hw'⟩
        simp only [Act.put, sqA, sqB, sqC]
        apply kldR (cs := (stL y).toArray) (tStP y)
        · rfl
        · rfl
        · exact fun w' hw' => (b2.out.below hw' b2.out.lt).whole
        simp only [Act.put, sqA, sqB, sqC]
        intro w3 hC3
        have H3 := hid (HDO.out w3 hC3)
        have B3 := hid hC3
        clear hC3 qk qf HDO b2
        go_wp2_with fail
        refine H3.out.mono ?_
        rintro e w4 ⟨rfl, ho⟩
        obtain ⟨F2, hP4, e1, e2, e3, e4, e5⟩ := ho
        have PP4 := hid (show Pp (RepK 0) w4 g F2 (k + (j + 1)) { b with ms := (hand now y.1 (ms', off')).1, off := (hand now y.1 (ms', off')).2 } from hP4)
        have F4 := hid (show F2.gs = F.gs ∧ F2.gc = F.gc ∧ (∀ q, mutP F2 q → mutP F q ∨ w.heap.size ≤ q) ∧ (∀ q, rdP F2 q → mutP F q ∨ rdP F q ∨ w.heap.size ≤ q) ∧ Turn (mutP F) w w4 from by
          obtain ⟨f1, f2, f3, f4, f5⟩ := HF.out
          have hb := B2.out.trans (B3.out.mono B2.out.size)
          have hsz := f5.size
          have hs2 := hb.size
          refine ⟨e1.trans f1, e2.trans f2, fun q e => ?_, fun q e => ?_, (f5.trans (Turn.of_new (S := fun _ => False) hb) fun _ e => e.elim).trans e5 f3⟩
          · rcases e3 q e with y | y
            · exact f3 q y
            · exact .inr (by omega)
          · rcases e4 q e with y | y | y
            · exact (f3 q y).imp id .inr
            · exact f4 q y
            · exact .inr (.inr (by omega)))
        have HE4 := hid (show hands now ((L.map (·.1)).take (j + 1)) (b.ms, b.off) = ((hand now y.1 (ms', off')).1, (hand now y.1 (ms', off')).2) from by
          rw [List.take_add_one, List.getElem?_map, HY.out, Option.map_some, Option.toList_some, hands_snoc, HE.out])
        clear hP4 e1 e2 e3 e4 e5 H3 A2 B2 B3 HE HF BA
        go_wp2_with fail
        go_roundw
        case rel => exact ⟨j + 1, F2, _, _, by go_num, by omega, HE4, PP4, F4⟩
        case measure => simp [intOf] <;> omega
      · have PP4 := hid (show Pp (RepK 0) w2 g F' (k + (j + 1)) { b with ms := ms', off := off' } from A2.out.mono (by omega))
        have HE4 := hid (show hands now ((L.map (·.1)).take (j + 1)) (b.ms, b.off) = (ms', off') from by
          rw [List.take_add_one, List.getElem?_map, HY.out, Option.map_some, Option.toList_some, hands_snoc, HE.out, hand_odd hv])
        have F4 := hid (show F'.gs = F.gs ∧ F'.gc = F.gc ∧ (∀ q, mutP F' q → mutP F q ∨ w.heap.size ≤ q) ∧ (∀ q, rdP F' q → mutP F q ∨ rdP F q ∨ w.heap.size ≤ q) ∧ Turn (mutP F) w w2 from by
          obtain ⟨f1, f2, f3, f4, f5⟩ := HF.out
          exact ⟨f1, f2, f3, f4, f5.trans (Turn.of_new (S := fun _ => False) B2.out) fun _ e => e.elim⟩)
        obtain ⟨kd, hkd⟩ : ∃ kd, kd = y.1.kind := ⟨_, rfl⟩
        rw [← hkd] at qk hv
        clear hkd A2 B2 HE HF BA b2 hm hsy HY
        by_cases h1 : 1 ≤ kd
        · have t2 : decide ((1 : Int) ≤ kd) = true := by simp; omega
          have t3 : decide (kd < 7) = false := by simp; omega
          go_wp2_with fail
          go_roundw
          case rel => exact ⟨j + 1, F', _, _, by go_num, by omega, HE4, PP4, F4⟩
          case measure => simp [intOf] <;> omega
        · have t2 : decide ((1 : Int) ≤ kd) = false := by simp; omega
          go_wp2_with fail
          go_roundw
          case rel => exact ⟨j + 1, F', _, _, by go_num, by omega, HE4, PP4, F4⟩
          case measure => simp [intOf] <;> omega
    · have t1 : decide ((j : Int) < (L.length : Int)) = false := by simp; omega
      obtain rfl : j = L.length := by omega
      have hah : hands b.log.length b.steps (b.ms, b.off) = (ms', off') := by
        have h1 := HE.out
        rw [List.take_of_length_le (by rw [List.length_map]; exact Nat.le_refl _), LL.out, hands_filter, HN.out] at h1
        exact h1
      have hP := HP.out
      obtain ⟨A', c', r', vl', Fm', K', hMo'⟩ := hP.skel
      have hS : ¬ F'.Io r' := fun e => hP.sep r' (.inl e) (.inl (by rw [hMo']; exact .inr (.inl rfl)))
      have p2 := pb_mp K'.blk
      have MV' := hid K'.map
      have HO := hid (show ∀ w9, MapV w9 r' (MpV.upd Fm' (now : Int) MpV.zero) → Turn (fun b => b = r') wo w9 → outQ (RepK 1) w g F (k + b.steps.length) (BuM.ahead b) w9 from fun w9 hM ht => by
        have hl : now = b.log.length := HN.out
        rw [hl] at hM
        have h5 : outQ (RepK 1) wo g F' (k + b.steps.length) { { b with ms := ms', off := off' } with off := off', log := b.log } w9 :=
          hP.own (Mo' := F'.Mo) ⟨_, _, _, _, _, repK_struck K' hM ht hS, hMo'⟩ (ht.mono fun q e => by rw [hMo']; exact .inr (.inl e)) (fun q e => .inl e) (fun q e => Nat.lt_of_lt_of_le (hP.olt q (.inl e)) ht.size) (by omega) (Nat.le_trans hP.sz.2.2.2.1 (by omega))
        obtain ⟨f1, f2, f3, f4, f5⟩ := HF.out
        have h6 := outQ.trans f1 f2 f3 f4 f5 h5
        have h7 : BuM.ahead b = { { b with ms := ms', off := off' } with off := off', log := b.log } := by unfold BuM.ahead; rw [hah]
        rw [h7]
        exact h6)
      clear K' hP HE HP HF hah hMo' hS
      go_wp2_with ((with_reducible apply wdelV); rfl; rfl; exact MV'.out; intro w9 hM9 hT9)
      refine bodyPost_end (results_none rfl _ _ _) rfl ?_
      exact ⟨rfl, HO.out w9 hM9 hT9⟩
end
end BuP
end Go.Proofs.YtklmjdhhnnanoaaGreatDoor
