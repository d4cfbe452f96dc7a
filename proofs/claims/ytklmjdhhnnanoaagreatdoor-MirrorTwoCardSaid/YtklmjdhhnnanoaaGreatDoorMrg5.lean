/-
  Maps of sectors by their places: a block that reads as a function of the place; looked up, written, struck out, cloned.
  Contracts of what the program's member is made of: a sector put into an image, an image's clone, whether a sector is there, the closures.
  The program's member in memory; the calls that turn nothing of it, or one cell.
  The program's settle: unflushed writes made durable, or lost; Flush and Crash.
  The program's Write and Mark.
  The program's Set: unflushed writes there struck out of their row (slices.IndexFunc, slices.DeleteFunc).
  The program's Back and Copy.
-/
import Derived.Test.YtklmjdhhnnanoaaGreatDoorMrg4
import Derived.MapKept
import Derived.Laws.Externs
set_option linter.unusedVariables false
set_option linter.unusedSimpArgs false
set_option maxRecDepth 100000
namespace Go.Proofs.YtklmjdhhnnanoaaGreatDoor
open Go.ChangeShapes Go.WideShapes Go.ChangeAt Go.RowKit
attribute [local go_sem] Gives
namespace MbP
open MbM
abbrev Ent := Int × (Nat → Nat)
def look : List Ent → Int → Nat → Option (Nat × (Nat → Nat))
  | [], _, _ => none
  | p :: l, i, n => if p.1 = i then some (n, p.2) else look l i (n + 1)
def putE : List Ent → Int → (Nat → Nat) → List Ent
  | [], i, s => [(i, s)]
  | p :: l, i, s => if p.1 = i then (i, s) :: l else p :: putE l i s
def delE : List Ent → Int → List Ent
  | [], _ => []
  | p :: l, i => if p.1 = i then l else p :: delE l i
def getE : List Ent → Int → Nat → Nat
  | [], _ => zero
  | p :: l, i => if p.1 = i then p.2 else getE l i
theorem look_get (i : Int) : ∀ (l : List Ent) (n : Nat), ((look l i n).map (·.2)).getD zero = getE l i
  | [], n => rfl
  | p :: l, n => by
    unfold look getE
    split
    · rfl
    · exact look_get i l (n + 1)
theorem look_some {i : Int} : ∀ {l : List Ent} {n : Nat} {q : Nat × (Nat → Nat)}, look l i n = some q → ∃ d, q.1 = n + d ∧ l[d]? = some (i, q.2) ∧ (∀ s, l.set d (i, s) = putE l i s) ∧ l.eraseIdx d = delE l i
  | [], n, q, h => by cases h
  | p :: l, n, q, h => by
    unfold look at h
    by_cases e : p.1 = i
    · rw [if_pos e] at h
      cases h
      refine ⟨0, rfl, ?_, fun s => ?_, ?_⟩
      · show some p = _; rw [← e]
      · show _ :: _ = _; unfold putE; rw [if_pos e]
      · show l = _; unfold delE; rw [if_pos e]
    · rw [if_neg e] at h
      obtain ⟨d, h1, h2, h3, h4⟩ := look_some h
      refine ⟨d + 1, by omega, h2, fun s => ?_, ?_⟩
      · rw [List.set_cons_succ, h3, putE, if_neg e]
      · rw [List.eraseIdx_cons_succ, h4, delE, if_neg e]
theorem look_none {i : Int} : ∀ {l : List Ent} {n : Nat}, look l i n = none → (∀ s, putE l i s = l ++ [(i, s)]) ∧ delE l i = l
  | [], n, h => ⟨fun s => rfl, rfl⟩
  | p :: l, n, h => by
    unfold look at h
    by_cases e : p.1 = i
    · rw [if_pos e] at h; cases h
    · rw [if_neg e] at h
      obtain ⟨h1, h2⟩ := look_none h
      exact ⟨fun s => by rw [putE, if_neg e, h1]; rfl, by rw [delE, if_neg e, h2]⟩
theorem get_put (i : Int) (s : Nat → Nat) (j : Int) : ∀ l : List Ent, getE (putE l i s) j = if j = i then s else getE l j
  | [] => by
    unfold putE getE getE
    by_cases e : j = i
    · rw [if_pos e.symm, if_pos e]
    · rw [if_neg fun h => e h.symm, if_neg e]
  | p :: l => by
    unfold putE
    by_cases e : p.1 = i
    · rw [if_pos e]
      unfold getE
      by_cases h : j = i
      · rw [if_pos h.symm, if_pos h]
      · rw [if_neg fun x => h x.symm, if_neg h, if_neg fun x => h (x.symm.trans e)]
    · rw [if_neg e]
      unfold getE
      by_cases h : p.1 = j
      · rw [if_pos h, if_pos h, if_neg fun x => e (h.trans x)]
      · rw [if_neg h, if_neg h]; exact get_put i s j l
theorem get_out {i : Int} : ∀ {l : List Ent}, i ∉ l.map (·.1) → getE l i = zero
  | [], _ => rfl
  | p :: l, h => by
    rw [List.map_cons, List.mem_cons, not_or] at h
    unfold getE
    rw [if_neg fun e => h.1 e.symm]
    exact get_out h.2
theorem get_del (i j : Int) : ∀ l : List Ent, (l.map (·.1)).Nodup → getE (delE l i) j = if j = i then zero else getE l j
  | [], _ => by unfold delE getE; split <;> rfl
  | p :: l, h => by
    rw [List.map_cons, List.nodup_cons] at h
    unfold delE
    by_cases e : p.1 = i
    · rw [if_pos e]
      by_cases hj : j = i
      · rw [if_pos hj, hj]; exact get_out (e ▸ h.1)
      · rw [if_neg hj]
        conv => rhs; unfold getE
        rw [if_neg fun x => hj (x.symm.trans e)]
    · rw [if_neg e]
      unfold getE
      by_cases hp : p.1 = j
      · rw [if_pos hp, if_pos hp, if_neg fun x => e (hp.trans x)]
      · rw [if_neg hp, if_neg hp]; exact get_del i j l h.2
theorem del_sub (i : Int) : ∀ l : List Ent, (delE l i).Sublist l
  | [] => List.Sublist.refl _
  | p :: l => by
    unfold delE
    split
    · exact List.sublist_cons_self p l
    · exact (del_sub i l).cons_cons p
theorem nodup_del {i : Int} {l : List Ent} (h : (l.map (·.1)).Nodup) : ((delE l i).map (·.1)).Nodup := List.Nodup.sublist ((del_sub i l).map _) h
theorem mem_put {i k : Int} {s : Nat → Nat} : ∀ {l : List Ent}, k ∈ (putE l i s).map (·.1) → k = i ∨ k ∈ l.map (·.1)
  | [], h => by simpa [putE] using h
  | p :: l, h => by
    unfold putE at h
    by_cases e : p.1 = i
    · rw [if_pos e, List.map_cons, List.mem_cons] at h
      exact h.imp id fun x => List.mem_cons_of_mem _ x
    · rw [if_neg e, List.map_cons, List.mem_cons] at h
      rcases h with h | h
      · exact .inr (by rw [List.map_cons, h]; exact List.mem_cons_self)
      · exact (mem_put h).imp id fun x => List.mem_cons_of_mem _ x
theorem nodup_put {i : Int} {s : Nat → Nat} : ∀ {l : List Ent}, (l.map (·.1)).Nodup → ((putE l i s).map (·.1)).Nodup
  | [], _ => by simp [putE]
  | p :: l, h => by
    rw [List.map_cons, List.nodup_cons] at h
    unfold putE
    by_cases e : p.1 = i
    · rw [if_pos e, List.map_cons, List.nodup_cons]
      exact ⟨e ▸ h.1, h.2⟩
    · rw [if_neg e, List.map_cons, List.nodup_cons]
      exact ⟨fun x => (mem_put x).elim e h.1, nodup_put h.2⟩
def kvE (e : MapEntry) : Value × Value := (e.key, e.val)
def kvP (p : Ent) : Value × Value := (.int .i64 p.1, .agg (ar 64 p.2))
theorem find_now (i : Int) : ∀ (es : List MapEntry) (l : List Ent) (n : Nat), es.map kvE = l.map kvP → Instr.findNow (.int .i64) (.int .i64 i) es n = some ((look l i n).map fun q => (q.1, Value.agg (ar 64 q.2)))
  | [], [], n, _ => rfl
  | [], _ :: _, n, h => by simp at h
  | _ :: _, [], n, h => by simp at h
  | e :: es, p :: l, n, h => by
    simp only [List.map_cons, List.cons.injEq] at h
    obtain ⟨h1, h2⟩ := h
    have hk : e.key = .int .i64 p.1 := congrArg Prod.fst h1
    have hv : e.val = .agg (ar 64 p.2) := congrArg Prod.snd h1
    unfold Instr.findNow look
    rw [hk, hv]
    by_cases e' : p.1 = i
    · have : (i == p.1) = true := by simp [e']
      simp [Instr.sameNow, this, e']
    · have : (i == p.1) = false := by simp; exact fun h => e' h.symm
      simp only [Instr.sameNow, this, if_neg e', if_true]
      exact find_now i es l (n + 1) h2
def MapB (w : World) (r : Nat) (F : Img) : Prop := ∃ es clock l, w.heap[r]? = some (.map es clock) ∧ es.toList.map kvE = l.map kvP ∧ (l.map (·.1)).Nodup ∧ ∀ i k, k < 64 → getE l i k = F i k
section
variable {w w' : World} {r : Nat} {F G : Img} {T : Nat → Prop}
theorem MapB.lt (h : MapB w r F) : r < w.heap.size := by
  obtain ⟨es, c, l, h1, _⟩ := h
  exact (Array.getElem?_eq_some_iff.1 h1).1
theorem MapB.turn (h : MapB w r F) (ht : Turn T w w') (hr : ¬ T r) : MapB w' r F := by
  have hl := h.lt
  obtain ⟨es, c, l, h1, h2⟩ := h
  exact ⟨es, c, l, (ht.block r hl hr).trans h1, h2⟩
theorem MapB.below (h : MapB w r F) (hb : Below w.heap.size w w') : MapB w' r F := h.turn (Turn.of_below hb) (by have := h.lt; omega)
theorem MapB.congr (h : MapB w r F) (e : ∀ i k, k < 64 → F i k = G i k) : MapB w r G := by
  obtain ⟨es, c, l, h1, h2, h3, h4⟩ := h
  exact ⟨es, c, l, h1, h2, h3, fun i k hk => (h4 i k hk).trans (e i k hk)⟩
theorem MapB.new (w : World) : MapB (w.alloc (.map #[] 0)) w.heap.size fun _ => zero := ⟨#[], 0, [], heap_alloc_new w _, rfl, List.nodup_nil, fun _ _ _ => rfl⟩
theorem MapB.twin (h : MapB w r F) : ∃ es clock, w.heap[r]? = some (.map es clock) ∧ ∀ w' r', w'.heap[r']? = some (.map es clock) → MapB w' r' F := by
  obtain ⟨es, c, l, h1, h2⟩ := h
  exact ⟨es, c, h1, fun w' r' e => ⟨es, c, l, e, h2⟩⟩
theorem ar_get {l : List Ent} {F : Img} (h : ∀ i k, k < 64 → getE l i k = F i k) (i : Int) : ar 64 (getE l i) = ar 64 (F i) := ar_ext fun k hk => h i k hk
end
theorem undImg : Tryz.prog.underlying 119 = some (.map 3 37) := Tryz.underlying119
theorem undInt : Tryz.prog.underlying 3 = some (.int .i64) := Tryz.underlying3
section
variable {w : World} {r : Nat} {F : Img}
theorem run_chk' (b : Bool) (n : Nat) (i : Int) (w : World) : (Instr.checkKey b (n + 1) 3 (.int .i64 i)).run Tryz.prog w = .ok () w := by
  unfold Instr.checkKey
  simp [run_underlying undInt, Result.andThen]
theorem run_chk (b : Bool) (i : Int) (w : World) : (Instr.checkKey b 10000 3 (.int .i64 i)).run Tryz.prog w = .ok () w := run_chk' b 9999 i w
theorem map_mod {α β : Type} {f : α → β} {g : α → α} {v : β} (hg : ∀ x, f (g x) = v) : ∀ (l : List α) (d : Nat), (l.modify d g).map f = (l.map f).set d v
  | [], d => by simp
  | x :: l, 0 => by simp [hg]
  | x :: l, d + 1 => by simp [map_mod hg l d]
theorem map_era {α β : Type} (f : α → β) : ∀ (l : List α) (d : Nat), (l.eraseIdx d).map f = (l.map f).eraseIdx d
  | [], d => by simp
  | x :: l, 0 => by simp
  | x :: l, d + 1 => by simp [map_era f l d]
theorem run_find {es : Array MapEntry} {l : List Ent} (h : es.toList.map kvE = l.map kvP) (i : Int) (w : World) : (Instr.findKey 3 (.int .i64 i) es.toList).run Tryz.prog w = .ok ((look l i 0).map fun q => (q.1, Value.agg (ar 64 q.2))) w := by
  simp [Instr.findKey, run_underlying undInt, Result.andThen, find_now i es.toList l 0 h]
theorem run_look (h : MapB w r F) (i : Int) : (Instr.lookup 119 (.map (some r)) (.int .i64 i) false).run Tryz.prog w = .ok (.agg (ar 64 (F i))) w := by
  obtain ⟨es, c, l, h1, h2, h3, h4⟩ := h
  have e := look_get i l 0
  cases hl : look l i 0 with
  | none =>
    rw [hl] at e
    have e2 : zero = getE l i := e
    have e3 : ar 64 (fun _ => 0) = ar 64 (F i) := ((by rw [← e2]; rfl : ar 64 (fun _ => 0) = ar 64 (getE l i))).trans (ar_get h4 i)
    simp [Instr.lookup, run_underlying undImg, MapKept.run_getObj_map h1, run_chk, run_find h2, hl, Result.andThen, tSe.zero w, e3]
  | some q =>
    rw [hl] at e
    have e2 : q.2 = getE l i := e
    have e3 : ar 64 q.2 = ar 64 (F i) := by rw [e2]; exact ar_get h4 i
    simp [Instr.lookup, run_underlying undImg, MapKept.run_getObj_map h1, run_chk, run_find h2, hl, Result.andThen, e3]
theorem turn_set (w : World) (r : Nat) (o : Obj) : Turn (fun b => b = r) w { w with heap := w.heap.setIfInBounds r o } := ⟨rfl, rfl, rfl, by simp, fun k _ hk => by
  show (w.heap.setIfInBounds r o)[k]? = _
  rw [Array.getElem?_setIfInBounds_ne fun e => hk e.symm]⟩
theorem run_put (h : MapB w r F) (i : Int) (s : Nat → Nat) : ∃ w', (Instr.mapUpdate 119 (.map (some r)) (.int .i64 i) (.agg (ar 64 s))).run Tryz.prog w = .ok () w' ∧ MapB w' r (upd F ⟨i, s⟩) ∧ Turn (fun b => b = r) w w' := by
  have hlt := h.lt
  obtain ⟨es, c, l, h1, h2, h3, h4⟩ := h
  have hval : ∀ j k, k < 64 → getE (putE l i s) j k = upd F ⟨i, s⟩ j k := fun j k hk => by
    rw [get_put]
    unfold upd
    by_cases e : j = i
    · rw [if_pos e, if_pos e]
    · rw [if_neg e, if_neg e]; exact h4 j k hk
  cases hl : look l i 0 with
  | none =>
    obtain ⟨e1, e2⟩ := look_none hl
    refine ⟨_, by simp [Instr.mapUpdate, run_underlying undImg, MapKept.run_getObj_map h1, run_chk, run_find h2, hl, Result.andThen, MapKept.run_setObj_map _ h1]; rfl, ?_, turn_set _ _ _⟩
    refine ⟨_, _, putE l i s, by simp [hlt]; exact ⟨rfl, rfl⟩, ?_, nodup_put h3, hval⟩
    rw [e1, Array.toList_push, List.map_append, List.map_append, h2]
    rfl
  | some q =>
    obtain ⟨d, e1, e2, e3, e4⟩ := look_some hl
    rw [Nat.zero_add] at e1
    subst e1
    have hd : q.1 < l.length := (List.getElem?_eq_some_iff.1 e2).1
    have hlen : es.size = l.length := by have := congrArg List.length h2; simpa using this
    have hes : q.1 < es.size := by omega
    have hkey : es[q.1].key = .int .i64 i := by
      have := congrArg (fun x => x[q.1]?) h2
      simp only [List.getElem?_map, e2, Array.getElem?_toList, Array.getElem?_eq_getElem hes, Option.map_some, Option.some.injEq] at this
      exact congrArg Prod.fst this
    have hst : ∀ w, (Instr.keyThatStays (.int .i64 i) (.int .i64 i)).run Tryz.prog w = .ok (.int .i64 i) w := fun w => by
      simp [Instr.keyThatStays, Instr.sameBits]
    refine ⟨_, by simp [Instr.mapUpdate, run_underlying undImg, MapKept.run_getObj_map h1, run_chk, run_find h2, hl, Result.andThen, MapKept.run_setObj_map _ h1, Array.getElem?_eq_getElem hes, hkey, hst]; rfl, ?_, turn_set _ _ _⟩
    refine ⟨_, _, putE l i s, by simp [hlt]; exact ⟨rfl, rfl⟩, ?_, nodup_put h3, hval⟩
    rw [← e3, Array.toList_modify, List.map_set, ← h2]
    exact map_mod (f := kvE) (g := fun e => { key := Value.int IntKind.i64 i, val := Value.agg (ar 64 s), born := e.born }) (v := kvP (i, s)) (fun _ => rfl) _ _
theorem run_del {ty : TypeId} (h : MapB w r F) (i : Int) : ∃ w', (Builtin.delete_ #[119, 3] ty #[.map (some r), .int .i64 i]).run Tryz.prog w = .ok (.tuple #[]) w' ∧ MapB w' r (upd F ⟨i, zero⟩) ∧ Turn (fun b => b = r) w w' := by
  have hlt := h.lt
  obtain ⟨es, c, l, h1, h2, h3, h4⟩ := h
  have hval : ∀ j k, k < 64 → getE (delE l i) j k = upd F ⟨i, zero⟩ j k := fun j k hk => by
    rw [get_del i j l h3]
    unfold upd
    by_cases e : j = i
    · rw [if_pos e, if_pos e]
    · rw [if_neg e, if_neg e]; exact h4 j k hk
  cases hl : look l i 0 with
  | none =>
    obtain ⟨e1, e2⟩ := look_none hl
    refine ⟨_, by simp [Builtin.delete_, run_underlying undImg, MapKept.run_getObj_map h1, run_chk, run_find h2, hl, Result.andThen, MapKept.run_setObj_map _ h1]; rfl, ?_, turn_set _ _ _⟩
    exact ⟨_, _, delE l i, by simp [hlt]; exact ⟨rfl, rfl⟩, by rw [e2]; exact h2, nodup_del h3, hval⟩
  | some q =>
    obtain ⟨d, e1, e2, e3, e4⟩ := look_some hl
    rw [Nat.zero_add] at e1
    subst e1
    refine ⟨_, by simp [Builtin.delete_, run_underlying undImg, MapKept.run_getObj_map h1, run_chk, run_find h2, hl, Result.andThen, MapKept.run_setObj_map _ h1]; rfl, ?_, turn_set _ _ _⟩
    refine ⟨_, _, delE l i, by simp [hlt]; exact ⟨rfl, rfl⟩, ?_, nodup_del h3, hval⟩
    rw [← e4, map_era, ← h2, ← map_era]
    congr 1
    rw [Array.toList_eraseIdxIfInBounds]
end
end MbP
end Go.Proofs.YtklmjdhhnnanoaaGreatDoor
set_option maxRecDepth 100000
namespace Go.Proofs.YtklmjdhhnnanoaaGreatDoor
open Go.ChangeShapes Go.WideShapes Go.ChangeAt Go.RowKit
attribute [local go_sem] Gives
namespace MbO
open MbM MbP
section
variable {ops : Array Oper} {Q : Exit → Act → World → Prop} {a : Act} {w : World} {rest : List Oper} {dst : Option Tmp} {ty t2 : TypeId} {pos : String} {after : Array Edge} {m x y : Operand} {r : Nat} {i : Int} {F : Img} {s f g : Nat → Nat} {n : Nat} {T : TypeId}
theorem wlookM (hm : a.eval m = .map (some r)) (hx : a.eval x = .int .i64 i) (h : MapB w r F) (hk : wpList Tryz.prog ops Q rest (a.put dst (.agg (ar 64 (F i)))) w) :
    wpList Tryz.prog ops Q (⟨dst, .lookup 119 m x false, ty, pos, after, none⟩ :: rest) a w := by
  have hr := run_look h i
  refine wpList_plain rfl fun K hK => ?_
  unfold Oper.wp execOp
  simp [hm, hx, hr, Result.andThen]
  exact hK _ _ hk
theorem wputM (hm : a.eval m = .map (some r)) (hx : a.eval x = .int .i64 i) (hy : a.eval y = .agg (ar 64 s)) (h : MapB w r F) (hk : ∀ w', MapB w' r (upd F ⟨i, s⟩) → Turn (fun b => b = r) w w' → wpList Tryz.prog ops Q rest (a.put dst undef) w') :
    wpList Tryz.prog ops Q (⟨dst, .mapUpdate 119 m x y, ty, pos, after, none⟩ :: rest) a w := by
  obtain ⟨w', hr, h1, h2⟩ := run_put h i s
  refine wpList_plain rfl fun K hK => ?_
  unfold Oper.wp execOp
  simp [hm, hx, hy, hr, Result.andThen]
  exact hK _ _ (hk w' h1 h2)
theorem wdelM (hm : a.eval m = .map (some r)) (hx : a.eval x = .int .i64 i) (h : MapB w r F) (hk : ∀ w', MapB w' r (upd F ⟨i, zero⟩) → Turn (fun b => b = r) w w' → wpList Tryz.prog ops Q rest (a.put dst (.tuple #[])) w') :
    wpList Tryz.prog ops Q (⟨dst, .call { callee := .builtin .delete, args := #[m, x], argTypes := #[119, 3] }, ty, pos, after, none⟩ :: rest) a w := by
  obtain ⟨w', hr, h1, h2⟩ := run_del (ty := ty) h i
  refine wpList_plain rfl fun K hK => ?_
  unfold Oper.wp execOp
  simp only [resolve, invoke, builtin, Sem.run_bind, Sem.run_pure, Result.andThen_ok, List.map_toArray, List.map_cons, List.map_nil, hm, hx, hr]
  exact hK _ _ (hk w' h1 h2)
theorem weqU (b : Bool) (hT : Tryz.prog.underlying T = some (.array n 5)) (hg : Tryz.prog.eqGuardType Tryz.prog.depth T = false) (hx : a.eval x = .agg (ar n f)) (hy : a.eval y = .agg (ar n g)) (hb : eqA n f g = b) (h : wpList Tryz.prog ops Q rest (a.put dst (.bool b)) w) :
    wpList Tryz.prog ops Q (⟨dst, .binOp .eql T x y t2, ty, pos, after, none⟩ :: rest) a w := by
  have hr := exec_eqU (r := t2) (dst := dst) (ty := ty) (pos := pos) (after := after) (gd := none) (w := w) hT hg hx hy
  rw [hb] at hr
  refine wpList_plain rfl fun K hK => ?_
  unfold Oper.wp
  simp [hr, Result.andThen]
  exact hK _ _ h
end
theorem uSe : Tryz.prog.underlying 37 = some (.array 64 5) := Tryz.underlying37
theorem gSe : Tryz.prog.eqGuardType Tryz.prog.depth 37 = false := by kernel_rfl
set_option maxRecDepth 100000 in
theorem put_any (r : Nat) (F : Img) (i : Int) (x : Nat → Nat) (w : World) (h : MapB w r F) :
    Calls Tryz.prog 60 #[.map (some r), .int .i64 i, .agg (ar 64 x)] w fun e w' => e = .returned (.tuple #[]) ∧ MapB w' r (upd F ⟨i, x⟩) ∧ Turn (fun b => b = r) w w' := by
  have H := hid h
  clear h
  go_enter Tryz.func60, Tryz.ntmps60
  go_upto_region 1 with fail
  generalize hw1 : World.alloc w _ = w1
  have b1 := hid (show Blk w1 w.heap.size 37 (ar 64 x) by rw [← hw1]; exact Blk.new _ _ _)
  have BEL := hid (show Below w.heap.size w w1 by rw [← hw1]; exact (Below.refl _ _).alloc (Nat.le_refl _) _)
  have H1 := hid (H.out.below BEL.out)
  clear hw1 H
  by_cases hz : ∀ k, k < 64 → x k = 0
  · have he := hid (show eqA 64 x (fun _ => 0) = true from eqA_yes hz)
    have HZ := hid hz
    clear hz
    go_wp2_with (first | ((with_reducible apply ldA tSe); rfl; exact b1.out) | ((with_reducible apply bldZr (n := 64)); kernel_rfl) | ((with_reducible apply weqU true uSe gSe); rfl; rfl; exact he.out) | ((with_reducible apply wdelM); rfl; rfl; exact H1.out; intro w2 h2 ht2))
    simp only [Act.put]
    refine bodyPost_ret (results_none rfl _ _ _) rfl ?_
    refine ⟨rfl, h2.congr fun j k hk => ?_, (Turn.of_new BEL.out).trans ht2 fun _ e => .inl e⟩
    unfold upd
    split
    · exact (HZ.out k hk).symm
    · rfl
  · have he := hid (show eqA 64 x (fun _ => 0) = false from eqA_no hz)
    clear hz
    go_wp2_with (first | ((with_reducible apply ldA tSe); rfl; exact b1.out) | ((with_reducible apply bldZr (n := 64)); kernel_rfl) | ((with_reducible apply weqU false uSe gSe); rfl; rfl; exact he.out) | ((with_reducible apply wputM); rfl; rfl; rfl; exact H1.out; intro w2 h2 ht2))
    go_end0
    exact ⟨rfl, h2, (Turn.of_new BEL.out).trans ht2 fun _ e => .inl e⟩
theorem run_eqi_map (w : World) (d : Nat) (p : Option Nat) : (Op.equalIn (d + 1) 119 (.map p) (.map none)).run Tryz.prog w = .ok p.isNone w := by
  cases p <;> simp [Op.equalIn, run_underlying undImg]
theorem run_eq_map (w : World) (p : Option Nat) : (binOp .eql 119 (.map p) (.map none)).run Tryz.prog w = .ok (.bool p.isNone) w := by
  simp only [binOp]
  simp [show Op.equal 119 (.map p) (.map none) = Op.equalIn (9999 + 1) 119 (.map p) (.map none) from rfl, run_eqi_map w 9999 p]
theorem run_ta_map (w : World) (v : Value) (xT : TypeId) : (Instr.typeAssert (.iface 119 v) xT 119 false).run Tryz.prog w = .ok v w := by
  simp [Instr.typeAssert, run_underlying undImg, go_sem, Result.andThen]
theorem run_clone {w : World} {r : Nat} {es : Array MapEntry} {clock : Nat} (t : TypeId) (hb : w.heap[r]? = some (.map es clock)) :
    (Extern.MapsClone.clone #[.iface t (.map (some r))]).run Tryz.prog w = .ok (.iface t (.map (some w.heap.size))) (w.alloc (.map es clock)) := by
  have e : Extern.MapsClone.clone #[.iface t (.map (some r))] = (getObj r >>= fun o => match o with
      | .map entries clock => (newObj (.map entries clock) >>= fun n => pure (.iface t (.map (some n))))
      | _ => stuck "maps.clone: a map expected") := rfl
  rw [e]
  simp [MapKept.run_getObj_map hb, Result.andThen, go_sem]
set_option maxHeartbeats 800000 in
theorem clone_any (r : Nat) (F : Img) (w : World) (h : MapB w r F) :
    Calls Tryz.prog 176 #[.map (some r)] w fun e w' => e = .returned (.map (some w.heap.size)) ∧ MapB w' w.heap.size F ∧ Below w.heap.size w w' ∧ w'.heap.size = w.heap.size + 1 := by
  obtain ⟨es, clock, hb, htw⟩ := h.twin
  have HT := hid htw
  clear h htw
  have hq := fun w => run_eq_map w (some r)
  go_enter Tryz.func176, Tryz.ntmps176
  go_wp2
  rw [run_callFunc_extern Tryz.func182 (by kernel_rfl) (by kernel_rfl) (by kernel_rfl) (e := Extern.MapsClone.clone) (by kernel_rfl), run_clone 119 hb]
  simp only [Result.andThen]
  rw [Oper.upon_value]
  go_wp2
  rw [run_ta_map]
  simp only [Result.andThen]
  rw [Oper.upon_value]
  go_wp2
  go_ret
  exact ⟨rfl, HT.out _ _ (heap_alloc_new w _), (Below.refl _ _).alloc (Nat.le_refl _) _, by simp⟩
theorem made_any (g : Nat) (n : Int) (hn : 0 < n) (w : World) (h : w.cell? ⟨g, 0, none⟩ = some (.int .i64 n)) :
    Calls Tryz.prog 45 #[.pointer (some ⟨g, 0, none⟩)] w fun e w' => e = .returned (.bool true) ∧ w = w' := by
  have t1 : decide ((0 : Int) < n) = true := by simp; omega
  clear hn
  go_enter Tryz.func45, Tryz.ntmps45
  go_wp2_with fail
  go_ret
  exact ⟨rfl, rfl⟩
theorem find2_any (g : Nat) (n : Int) (hn : 0 < n) (i : Int) (q : Bool) (hq : decide (0 ≤ i ∧ i < n) = q) (w : World) (h : w.cell? ⟨g, 0, none⟩ = some (.int .i64 n)) :
    Calls Tryz.prog 46 #[.pointer (some ⟨g, 0, none⟩), .int .i64 i] w fun e w' => e = .returned (.int .i64 (if q then 0 else 2)) ∧ w = w' := by
  by_cases h0 : 0 ≤ i
  · have t1 : decide (i < 0) = false := by simp; omega
    by_cases h1 : i < n
    · have t2 : decide (n ≤ i) = false := by simp; omega
      have t3 : q = true := by rw [← hq]; simp; omega
      subst t3
      clear hq h0 h1
      go_enter Tryz.func46, Tryz.ntmps46
      go_wp2_with fail
      refine (made_any g n hn w h).mono ?_
      rintro e w' ⟨rfl, rfl⟩
      go_wp2_with fail
      go_ret
      exact ⟨rfl, rfl⟩
    · have t2 : decide (n ≤ i) = true := by simp; omega
      have t3 : q = false := by rw [← hq]; simp; omega
      subst t3
      clear hq h0 h1
      go_enter Tryz.func46, Tryz.ntmps46
      go_wp2_with fail
      refine (made_any g n hn w h).mono ?_
      rintro e w' ⟨rfl, rfl⟩
      go_wp2_with fail
      go_ret
      exact ⟨rfl, rfl⟩
  · have t1 : decide (i < 0) = true := by simp; omega
    have t3 : q = false := by rw [← hq]; simp; omega
    subst t3
    clear hq h0
    go_enter Tryz.func46, Tryz.ntmps46
    go_wp2_with fail
    refine (made_any g n hn w h).mono ?_
    rintro e w' ⟨rfl, rfl⟩
    go_wp2_with fail
    go_ret
    exact ⟨rfl, rfl⟩
theorem reach_any (g : Nat) (n : Int) (hn : 0 < n) (i : Int) (q F : Bool) (hq : decide (0 ≤ i ∧ i < n) = q) (w : World) (h : w.cell? ⟨g, 0, none⟩ = some (.int .i64 n)) (h5 : w.cell? ⟨g, 5, none⟩ = some (.bool F)) :
    Calls Tryz.prog 117 #[.pointer (some ⟨g, 0, none⟩), .int .i64 i] w fun e w' => e = .returned (.int .i64 (if q then (if F then 10 else 0) else 2)) ∧ w = w' := by
  have HQ := hid hq
  clear hq
  go_enter Tryz.func117, Tryz.ntmps117
  go_wp2_with fail
  refine (find2_any g n hn i q HQ.out w h).mono ?_
  rintro e w' ⟨rfl, rfl⟩
  cases q with
  | false =>
    go_wp2_with fail
    go_ret
    exact ⟨rfl, rfl⟩
  | true =>
    cases F with
    | false =>
      go_wp2_with fail
      go_ret
      exact ⟨rfl, rfl⟩
    | true =>
      go_wp2_with fail
      go_ret
      exact ⟨rfl, rfl⟩
theorem yes_any (k : Int) (w : World) : Calls Tryz.prog 119 #[.int .i64 k] w fun e w' => e = .returned (.bool true) ∧ w = w' := by
  go_enter Tryz.func119, Tryz.ntmps119
  go_wp2_with fail
  go_ret
  exact ⟨rfl, rfl⟩
theorem picked_any (h : Nat) (P : Option Addr) (picks : List Nat) (pn pc : Nat) (k : Nat) (w : World) (hb : w.cell? ⟨h, 0, none⟩ = some (.slice P pn pc)) (ha : Arg w P picks pn pc) :
    Calls Tryz.prog 183 #[.int .i64 k, .pointer (some ⟨h, 0, none⟩)] w fun e w' => e = .returned (.bool (decide (picks.getD k 0 ≠ 0))) ∧ w = w' := by
  have hl := ha.len
  by_cases hk : k < pn
  · obtain ⟨b, o, rfl, hbl, hr⟩ := ha.byt (by omega)
    obtain ⟨x, hx⟩ : ∃ x, x = picks.getD k 0 := ⟨_, rfl⟩
    have q1 : w.cell? ⟨b, o + k, none⟩ = some (.int .u8 (x : Nat)) := by rw [hx]; exact hr k (by omega)
    rw [← hx]
    have t1 : (k : Int) < (pn : Int) := by omega
    clear hx hr ha hl
    by_cases e : x = 0
    · subst e
      go_enter Tryz.func183, Tryz.ntmps183
      go_wp2_with fail
      go_ret
      exact ⟨rfl, rfl⟩
    · have tx : ((x : Int) != 0) = true := by simp; omega
      rw [show decide (x ≠ 0) = true by simp [e]]
      go_enter Tryz.func183, Tryz.ntmps183
      go_wp2_with fail
      go_ret
      exact ⟨rfl, rfl⟩
  · have t1 : decide ((k : Int) < (pn : Int)) = false := by simp; omega
    have HF := hid (show decide (picks.getD k 0 ≠ 0) = false by rw [List.getD_eq_getElem?_getD, List.getElem?_eq_none (by omega)]; rfl)
    clear ha hl
    go_enter Tryz.func183, Tryz.ntmps183
    go_wp2_with fail
    go_ret
    exact ⟨by rw [HF.out]; rfl, rfl⟩
theorem tWr (p : Pt) : RowT 146 (atL p).toArray.size := by
  rw [List.size_toArray, atL_len]
  exact ⟨by kernel_rfl, _, Tryz.underlying146, rfl⟩
theorem at_one (p : Pt) : (atL p).toArray.all (·.oneCell') = true := by
  rw [Array.all_eq_true_iff_forall_mem]
  intro u hu
  exact atL_ones p u (by simpa using hu)
theorem there_any (h : Nat) (i : Int) (p : Pt) (w : World) (hb : w.cell? ⟨h, 0, none⟩ = some (.int .i64 i)) :
    Calls Tryz.prog 62 #[.agg (atL p).toArray, .pointer (some ⟨h, 0, none⟩)] w fun e w' => e = .returned (.bool (decide (p.i = i))) ∧ Below w.heap.size w w' := by
  have hl : h < w.heap.size := World.block_lt_of_cell? w ⟨h, 0, none⟩ hb
  have HB := hid hb
  clear hb
  go_enter Tryz.func62, Tryz.ntmps62
  go_upto_region 1 with fail
  generalize hw1 : World.alloc w _ = w1
  have b1 := hid (show Blk w1 w.heap.size 146 (atL p).toArray by rw [← hw1]; exact Blk.new _ _ _)
  have BEL := hid (show Below w.heap.size w w1 by rw [← hw1]; exact (Below.refl _ _).alloc (Nat.le_refl _) _)
  have q0 : w1.cell? ⟨h, 0, none⟩ = some (.int .i64 i) := (BEL.out.cell (p := ⟨h, 0, none⟩) hl).trans HB.out
  have q1 : w1.cell? ⟨w.heap.size, 0, none⟩ = some (.int .i64 p.i) := at_i b1.out.whole
  clear hw1 HB b1
  go_wp2_with fail
  go_ret
  exact ⟨rfl, BEL.out⟩
end MbO
end Go.Proofs.YtklmjdhhnnanoaaGreatDoor
set_option maxRecDepth 100000
namespace Go.Proofs.YtklmjdhhnnanoaaGreatDoor
open Go.ChangeShapes Go.WideShapes Go.ChangeAt Go.RowKit
attribute [local go_sem] Gives
namespace MbP
theorem MapB.obj {w : World} {r : Nat} {F : MbM.Img} (h : MapB w r F) : ∃ es c, w.heap[r]? = some (.map es c) := by
  obtain ⟨es, c, l, h1, _⟩ := h
  exact ⟨es, c, h1⟩
theorem map_ne {w : World} {r b : Nat} {F : MbM.Img} {cs : Array Value} {t : TypeId} {q : Nat × Nat} (h : MapB w r F) (hb : w.heap[b]? = some (.cells cs t q)) : b ≠ r := fun e => by
  obtain ⟨es, c, h1⟩ := h.obj
  rw [← e, hb] at h1
  cases h1
end MbP
namespace MbO
open MbM MbP
theorem eltWr : EltX 146 65 atL where
  pos := by omega
  len := atL_len
  one := atL_ones
  info := elt_info (by kernel_rfl) (by kernel_rfl) (by kernel_rfl)
theorem undWr : Tryz.prog.underlying 120 = some (.slice 146) := Tryz.underlying120
def imE (r : Option Nat) : List Value := [.map r]
theorem eltIm : EltX 119 1 imE where
  pos := by omega
  len _ := rfl
  one x u hu := by
    unfold imE at hu
    rw [List.mem_singleton] at hu
    subst hu; rfl
  info := elt_info (by kernel_rfl) (by kernel_rfl) (by kernel_rfl)
theorem undIm : Tryz.prog.underlying 121 = some (.slice 119) := Tryz.underlying121
abbrev OwnL (w : World) (B : Nat) (v : Value) (l : List Pt) : Prop := OwnX 146 65 atL w B v l
abbrev OwnM (w : World) (B : Nat) (v : Value) (l : List (Option Nat)) : Prop := OwnX 119 1 imE w B v l
def mbC7 (n : Int) (rs rd : Nat) (vl vm : Value) (f h : Bool) : Array Value := #[.int .i64 n, .map (some rs), .map (some rd), vl, vm, .bool f, .bool h]
structure Mm (w : World) (g rs rd : Nat) (vl vm : Value) (ms : List Nat) (n : Int) (S D : Img) (log : List Pt) (marks : List Img) (f h : Bool) : Prop where
  blk : Blk w g 123 (mbC7 n rs rd vl vm f h)
  pos : 0 < n
  seen : MapB w rs S
  dur : MapB w rd D
  lg : OwnL w 0 vl log
  mr : OwnM w 0 vm (ms.map some)
  len : ms.length = marks.length
  im : ∀ (i m : Nat) (F : Img), ms[i]? = some m → marks[i]? = some F → MapB w m F
  ne : rs ≠ rd
  out : ∀ m, m ∈ ms → m ≠ rs ∧ m ≠ rd
def mSet (g rs rd : Nat) (vl vm : Value) (b : Nat) : Prop := b = g ∨ b = rs ∨ b = rd ∨ vl.ownBlock = some b ∨ vm.ownBlock = some b
section
variable {w w' : World} {g rs rd : Nat} {vl vm : Value} {ms : List Nat} {n : Int} {S D : Img} {log : List Pt} {marks : List Img} {f h : Bool} {T : Nat → Prop}
theorem Mm.lt (H : Mm w g rs rd vl vm ms n S D log marks f h) {b : Nat} (hb : mSet g rs rd vl vm b ∨ b ∈ ms) : b < w.heap.size := by
  rcases hb with (rfl | rfl | rfl | e | e) | e
  · exact H.blk.lt
  · exact H.seen.lt
  · exact H.dur.lt
  · exact (H.lg.own b e).2
  · exact (H.mr.own b e).2
  · obtain ⟨i, hi⟩ := List.mem_iff_getElem?.1 e
    have hil : i < marks.length := by rw [← H.len]; exact (List.getElem?_eq_some_iff.1 hi).1
    exact (H.im i b _ hi (List.getElem?_eq_getElem hil)).lt
theorem Mm.turn (H : Mm w g rs rd vl vm ms n S D log marks f h) (ht : Turn T w w') (hT : ∀ b, mSet g rs rd vl vm b ∨ b ∈ ms → ¬ T b) : Mm w' g rs rd vl vm ms n S D log marks f h where
  blk := H.blk.turn ht (hT _ (.inl (.inl rfl)))
  pos := H.pos
  seen := H.seen.turn ht (hT _ (.inl (.inr (.inl rfl))))
  dur := H.dur.turn ht (hT _ (.inl (.inr (.inr (.inl rfl)))))
  lg := H.lg.turn ht fun b e => hT b (.inl (.inr (.inr (.inr (.inl e)))))
  mr := H.mr.turn ht fun b e => hT b (.inl (.inr (.inr (.inr (.inr e)))))
  len := H.len
  im i m F h1 h2 := (H.im i m F h1 h2).turn ht (hT m (.inr (List.mem_of_getElem? h1)))
  ne := H.ne
  out := H.out
theorem Mm.below (H : Mm w g rs rd vl vm ms n S D log marks f h) (hb : Below w.heap.size w w') : Mm w' g rs rd vl vm ms n S D log marks f h :=
  H.turn (Turn.of_below hb) fun b e => by have := H.lt e; omega
theorem Mm.g_rs (H : Mm w g rs rd vl vm ms n S D log marks f h) : g ≠ rs := map_ne H.seen H.blk
theorem Mm.g_rd (H : Mm w g rs rd vl vm ms n S D log marks f h) : g ≠ rd := map_ne H.dur H.blk
theorem Mm.l_rs (H : Mm w g rs rd vl vm ms n S D log marks f h) : vl.ownBlock ≠ some rs := fun e => by obtain ⟨c, hc⟩ := H.lg.obj e; exact map_ne H.seen hc rfl
theorem Mm.l_rd (H : Mm w g rs rd vl vm ms n S D log marks f h) : vl.ownBlock ≠ some rd := fun e => by obtain ⟨c, hc⟩ := H.lg.obj e; exact map_ne H.dur hc rfl
theorem Mm.m_rs (H : Mm w g rs rd vl vm ms n S D log marks f h) : vm.ownBlock ≠ some rs := fun e => by obtain ⟨c, hc⟩ := H.mr.obj e; exact map_ne H.seen hc rfl
theorem Mm.m_rd (H : Mm w g rs rd vl vm ms n S D log marks f h) : vm.ownBlock ≠ some rd := fun e => by obtain ⟨c, hc⟩ := H.mr.obj e; exact map_ne H.dur hc rfl
theorem Mm.l_g (H : Mm w g rs rd vl vm ms n S D log marks f h) : vl.ownBlock ≠ some g := fun e => by
  obtain ⟨c, hc⟩ := H.lg.obj e
  have h2 : w.heap[g]? = some (.cells _ 123 (0, 0)) := H.blk
  rw [hc] at h2
  simp at h2
theorem Mm.m_g (H : Mm w g rs rd vl vm ms n S D log marks f h) : vm.ownBlock ≠ some g := fun e => by
  obtain ⟨c, hc⟩ := H.mr.obj e
  have h2 : w.heap[g]? = some (.cells _ 123 (0, 0)) := H.blk
  rw [hc] at h2
  simp at h2
theorem Mm.l_m (H : Mm w g rs rd vl vm ms n S D log marks f h) {b : Nat} (e : vl.ownBlock = some b) : vm.ownBlock ≠ some b := fun e2 => by
  obtain ⟨c, hc⟩ := H.lg.obj e
  obtain ⟨c2, hc2⟩ := H.mr.obj e2
  rw [hc] at hc2
  simp at hc2
theorem Mm.im_lt (H : Mm w g rs rd vl vm ms n S D log marks f h) {m : Nat} (hm : m ∈ ms) : ∃ F, MapB w m F := by
  obtain ⟨i, hi⟩ := List.mem_iff_getElem?.1 hm
  have hil : i < marks.length := by rw [← H.len]; exact (List.getElem?_eq_some_iff.1 hi).1
  exact ⟨_, H.im i m _ hi (List.getElem?_eq_getElem hil)⟩
theorem Mm.own (H : Mm w g rs rd vl vm ms n S D log marks f h) {b : Nat} (hb : mSet g rs rd vl vm b) : ¬ b ∈ ms := fun hm => by
  obtain ⟨F, hF⟩ := H.im_lt hm
  rcases hb with rfl | rfl | rfl | e | e
  · exact map_ne hF H.blk rfl
  · exact (H.out _ hm).1 rfl
  · exact (H.out _ hm).2 rfl
  · obtain ⟨c, hc⟩ := H.lg.obj e; exact map_ne hF hc rfl
  · obtain ⟨c, hc⟩ := H.mr.obj e; exact map_ne hF hc rfl
theorem Mm.flags (H : Mm w g rs rd vl vm ms n S D log marks f h) (f' h' : Bool) (ht : Turn (fun b => b = g) w w') (hb : Blk w' g 123 (mbC7 n rs rd vl vm f' h')) : Mm w' g rs rd vl vm ms n S D log marks f' h' where
  blk := hb
  pos := H.pos
  seen := H.seen.turn ht fun e => H.g_rs e.symm
  dur := H.dur.turn ht fun e => H.g_rd e.symm
  lg := H.lg.turn ht fun b e e2 => H.l_g (by rw [e, e2])
  mr := H.mr.turn ht fun b e e2 => H.m_g (by rw [e, e2])
  len := H.len
  im i m F h1 h2 := (H.im i m F h1 h2).turn ht fun e => map_ne (H.im i m F h1 h2) H.blk e.symm
  ne := H.ne
  out := H.out
end
def Rep (w : World) (g : Nat) (M I : Nat → Prop) (k : Nat) (st : St) : Prop := ∃ rs rd vl vm ms, Mm w g rs rd vl vm ms st.n (MbM.seen st) st.dur st.log st.marks st.fails st.hurt ∧
  (st.log.length ≤ k ∧ st.marks.length ≤ 64 ∧ st.n ≤ 65536) ∧ M = mSet g rs rd vl vm ∧ I = fun b => b ∈ ms
theorem Rep.out {w w' : World} {g rs rd : Nat} {vl vm : Value} {ms : List Nat} {rs' rd' : Nat} {vl' vm' : Value} {ms' : List Nat} {k : Nat} {st' : St}
    (H : Mm w' g rs' rd' vl' vm' ms' st'.n (MbM.seen st') st'.dur st'.log st'.marks st'.fails st'.hurt) (hk : st'.log.length ≤ k ∧ st'.marks.length ≤ 64 ∧ st'.n ≤ 65536)
    (hM : ∀ b, mSet g rs' rd' vl' vm' b → mSet g rs rd vl vm b ∨ w.heap.size ≤ b) (hI : ∀ b, b ∈ ms' → b ∈ ms ∨ w.heap.size ≤ b) (ht : Turn (mSet g rs rd vl vm) w w') :
    outP Rep w g (mSet g rs rd vl vm) (fun b => b ∈ ms) k st' w' :=
  ⟨_, _, ⟨rs', rd', vl', vm', ms', H, hk, rfl, rfl⟩, hM, fun b e => .inr (hI b e), ht⟩
theorem Rep.same {w w' : World} {g : Nat} {M I : Nat → Prop} {k : Nat} {st : St} (h : Rep w g M I k st) (hb : Below w.heap.size w w') : outP Rep w g M I k st w' := by
  obtain ⟨rs, rd, vl, vm, ms, H, hk, rfl, rfl⟩ := h
  exact Rep.out (H.below hb) hk (fun b e => .inl e) (fun b e => .inl e) (Turn.of_new hb)
section
variable {ops : Array Oper} {Q : Exit → Act → World → Prop} {a : Act} {w : World} {rest : List Oper} {dst : Option Tmp} {ty : TypeId} {pos : String} {after : Array Edge}
theorem wmkM {T : TypeId} (h : wpList Tryz.prog ops Q rest (a.put dst (.map (some w.heap.size))) (w.alloc (.map #[] 0))) :
    wpList Tryz.prog ops Q (⟨dst, .makeMap T none, ty, pos, after, none⟩ :: rest) a w := by
  have hr : (Instr.makeMap T none).run Tryz.prog w = .ok (.map (some w.heap.size)) (w.alloc (.map #[] 0)) := by
    simp [Instr.makeMap, go_sem, Result.andThen]
  refine wpList_plain rfl fun K hK => ?_
  unfold Oper.wp execOp
  simp only [Option.map_none, Sem.run_bind, hr, Result.andThen_ok, Sem.run_pure]
  exact hK _ _ h
end
theorem built_new (n : Int) (r1 r2 : Nat) : Tryz.prog.built 123 [(0, .int .i64 n), (1, .map (some r1)), (2, .map (some r2))] = some (mbC7 n r1 r2 (.slice none 0 0) (.slice none 0 0) false false) := by kernel_rfl
section
variable {ops : Array Oper} {Q : Exit → Act → World → Prop} {a : Act} {w : World} {rest : List Oper} {dst : Option Tmp} {ty : TypeId} {pos : String} {after : Array Edge} {x y z : Operand} {n : Int} {r1 r2 : Nat}
theorem bldMb (hx : a.eval x = .int .i64 n) (hy : a.eval y = .map (some r1)) (hz : a.eval z = .map (some r2)) (hk : wpList Tryz.prog ops Q rest (a.put dst (.agg (mbC7 n r1 r2 (.slice none 0 0) (.slice none 0 0) false false))) w) :
    wpList Tryz.prog ops Q (⟨dst, .build 123 #[(0, x), (1, y), (2, z)], ty, pos, after, none⟩ :: rest) a w := by
  have hr : (Instr.build 123 #[(0, .int .i64 n), (1, .map (some r1)), (2, .map (some r2))]).run Tryz.prog w = .ok (.agg (mbC7 n r1 r2 (.slice none 0 0) (.slice none 0 0) false false)) w := run_build w _ _ _ (built_new n r1 r2)
  refine wpList_plain rfl fun K hK => ?_
  unfold Oper.wp execOp
  simp [hx, hy, hz, hr, Result.andThen]
  exact hK _ _ hk
end
theorem new_any (n : Int) (h1 : 1 ≤ n) (h2 : n ≤ 65536) (w : World) : Calls Tryz.prog 32 #[.int .i64 n] w fun e w' => ∃ g M I, e = .returned (.tuple #[at' g, .int .i64 0]) ∧ Rep w' g M I 0 (made n) ∧ (∀ b, M b ∨ I b → w.heap.size ≤ b) ∧ Below w.heap.size w w' := by
  have t1 : decide (n < 1) = false := by simp; omega
  have t2 : decide ((65536 : Int) < n) = false := by simp; omega
  go_enter Tryz.func32, Tryz.ntmps32
  go_wp2_with (first | (with_reducible apply wmkM) | ((with_reducible apply bldMb); rfl; rfl; rfl))
  go_ret2
  refine ⟨w.heap.size + 2, mSet (w.heap.size + 2) w.heap.size (w.heap.size + 1) (.slice none 0 0) (.slice none 0 0), fun b => b ∈ [], by simp [at'], ?_, ?_, ?_⟩
  · refine ⟨w.heap.size, w.heap.size + 1, _, _, [], ?_, ⟨Nat.zero_le _, Nat.zero_le _, h2⟩, rfl, rfl⟩
    have m0 := MapB.new w
    have m1 : MapB ((w.alloc (.map #[] 0)).alloc (.map #[] 0)) (w.heap.size + 1) fun _ => zero := by
      have := MapB.new (w.alloc (.map #[] 0))
      rwa [show (w.alloc (.map #[] 0)).heap.size = w.heap.size + 1 by simp] at this
    have hb : ∀ (w : World) (o : Obj), Below w.heap.size w (w.alloc o) := fun w o => (Below.refl _ _).alloc (Nat.le_refl _) _
    exact ⟨Blk.top rfl (by simp), by show 0 < n; omega, (m0.below (hb _ _)).below (hb _ _), m1.below (hb _ _), OwnX.nil _ _ _ _ _, OwnX.nil _ _ _ _ _, rfl, fun i m F h => by simp at h, by omega, fun m h => by simp at h⟩
  · intro b hb
    rcases hb with (rfl | rfl | rfl | e | e) | e
    · omega
    · omega
    · omega
    · cases e
    · cases e
    · cases e
  · exact (((Below.refl _ _).alloc (Nat.le_refl _) _).alloc (by simp) _).alloc (by simp; omega) _
theorem bad_any (n : Int) (hn : ¬ (1 ≤ n ∧ n ≤ 65536)) (w : World) : Calls Tryz.prog 32 #[.int .i64 n] w fun e w' => e = .returned (.tuple #[.pointer none, .int .i64 2]) ∧ Below w.heap.size w w' := by
  by_cases h1 : n < 1
  · have t1 : decide (n < 1) = true := by simp; omega
    clear hn
    go_enter Tryz.func32, Tryz.ntmps32
    go_wp2_with fail
    go_ret2
    exact ⟨rfl, Below.refl _ _⟩
  · have t1 : decide (n < 1) = false := by simp; omega
    have t2 : decide ((65536 : Int) < n) = true := by simp; omega
    clear hn
    go_enter Tryz.func32, Tryz.ntmps32
    go_wp2_with fail
    go_ret2
    exact ⟨rfl, Below.refl _ _⟩
section
variable {w : World} {g rs rd : Nat} {vl vm : Value} {ms : List Nat} {n : Int} {S D : Img} {log : List Pt} {marks : List Img} {f h : Bool}
set_option maxRecDepth 100000 in
theorem read2_any (H : Mm w g rs rd vl vm ms n S D log marks f h) (i : Int) (q : Bool) (hq : decide (0 ≤ i ∧ i < n) = q) :
    Calls Tryz.prog 94 #[at' g, .int .i64 i] w fun e w' => e = .returned (.tuple #[.agg (ar 64 (if q then (if f then zero else S i) else zero)), .int .i64 (if q then (if f then 10 else 0) else 2)]) ∧ Below w.heap.size w w' := by
  have HH := hid H
  have HQ := hid hq
  unfold at'
  clear H hq
  go_enter Tryz.func94, Tryz.ntmps94
  go_upto_region 1 with (with_reducible apply alA tSe)
  generalize hw1 : World.alloc w _ = w1
  have b1 := hid (show Blk w1 w.heap.size 37 (ar 64 fun _ => 0) by rw [← hw1]; exact Blk.new _ _ _)
  have BEL := hid (show Below w.heap.size w w1 by rw [← hw1]; exact (Below.refl _ _).alloc (Nat.le_refl _) _)
  have H1 := hid (HH.out.below BEL.out)
  clear hw1 HH
  have p0 : w1.cell? ⟨g, 0, none⟩ = some (.int .i64 n) := H1.out.blk.cell 0
  have p5 : w1.cell? ⟨g, 5, none⟩ = some (.bool f) := H1.out.blk.cell 5
  have hn := hid H1.out.pos
  go_wp2_with fail
  refine (reach_any g n hn.out i q f HQ.out w1 p0 p5).mono ?_
  rintro e w' ⟨rfl, rfl⟩
  cases q with
  | false =>
    have bz := b1.out.setRow_same (ar 64 fun _ => 0)
    have bb := hid (below_setRow BEL.out (Nat.le_refl w.heap.size) (ar 64 fun _ => 0))
    go_wp2_with (first | ((with_reducible apply bldZr (n := 64)); kernel_rfl) | ((with_reducible apply stA tSe); rfl; rfl; exact b1.out))
    apply retA tSe Tryz.results94
    · rfl
    · rfl
    · rfl
    · exact bz
    · exact ⟨rfl, bb.out⟩
  | true =>
    cases f with
    | true =>
      have bz := b1.out.setRow_same (ar 64 fun _ => 0)
      have bb := hid (below_setRow BEL.out (Nat.le_refl w.heap.size) (ar 64 fun _ => 0))
      go_wp2_with (first | ((with_reducible apply bldZr (n := 64)); kernel_rfl) | ((with_reducible apply stA tSe); rfl; rfl; exact b1.out))
      apply retA tSe Tryz.results94
      · rfl
      · rfl
      · rfl
      · exact bz
      · exact ⟨rfl, bb.out⟩
    | false =>
      have p1 : w1.cell? ⟨g, 1, none⟩ = some (.map (some rs)) := H1.out.blk.cell 1
      have bz := b1.out.setRow_same (ar 64 (S i))
      have bb := hid (below_setRow BEL.out (Nat.le_refl w.heap.size) (ar 64 (S i)))
      go_wp2_with (first | ((with_reducible apply wlookM); rfl; rfl; exact H1.out.seen) | ((with_reducible apply stA tSe); rfl; rfl; exact b1.out))
      apply retA tSe Tryz.results94
      · rfl
      · rfl
      · rfl
      · exact bz
      · exact ⟨rfl, bb.out⟩
set_option maxRecDepth 100000 in
theorem look2_any (H : Mm w g rs rd vl vm ms n S D log marks f h) (i : Int) (q : Bool) (hq : decide (0 ≤ i ∧ i < n) = q) :
    Calls Tryz.prog 13 #[at' g, .int .i64 i] w fun e w' => e = .returned (.tuple #[.agg (ar 64 (if q then D i else zero)), .int .i64 (if q then 0 else 2)]) ∧ Below w.heap.size w w' := by
  have HH := hid H
  have HQ := hid hq
  unfold at'
  clear H hq
  go_enter Tryz.func13, Tryz.ntmps13
  go_upto_region 1 with (with_reducible apply alA tSe)
  generalize hw1 : World.alloc w _ = w1
  have b1 := hid (show Blk w1 w.heap.size 37 (ar 64 fun _ => 0) by rw [← hw1]; exact Blk.new _ _ _)
  have BEL := hid (show Below w.heap.size w w1 by rw [← hw1]; exact (Below.refl _ _).alloc (Nat.le_refl _) _)
  have H1 := hid (HH.out.below BEL.out)
  clear hw1 HH
  have p0 : w1.cell? ⟨g, 0, none⟩ = some (.int .i64 n) := H1.out.blk.cell 0
  have hn := hid H1.out.pos
  go_wp2_with fail
  refine (find2_any g n hn.out i q HQ.out w1 p0).mono ?_
  rintro e w' ⟨rfl, rfl⟩
  cases q with
  | false =>
    have bz := b1.out.setRow_same (ar 64 fun _ => 0)
    have bb := hid (below_setRow BEL.out (Nat.le_refl w.heap.size) (ar 64 fun _ => 0))
    go_wp2_with (first | ((with_reducible apply bldZr (n := 64)); kernel_rfl) | ((with_reducible apply stA tSe); rfl; rfl; exact b1.out))
    apply retA tSe Tryz.results13
    · rfl
    · rfl
    · rfl
    · exact bz
    · exact ⟨rfl, bb.out⟩
  | true =>
    have p1 : w1.cell? ⟨g, 2, none⟩ = some (.map (some rd)) := H1.out.blk.cell 2
    have bz := b1.out.setRow_same (ar 64 (D i))
    have bb := hid (below_setRow BEL.out (Nat.le_refl w.heap.size) (ar 64 (D i)))
    go_wp2_with (first | ((with_reducible apply wlookM); rfl; rfl; exact H1.out.dur) | ((with_reducible apply stA tSe); rfl; rfl; exact b1.out))
    apply retA tSe Tryz.results13
    · rfl
    · rfl
    · rfl
    · exact bz
    · exact ⟨rfl, bb.out⟩
theorem len2_any (H : Mm w g rs rd vl vm ms n S D log marks f h) : Calls Tryz.prog 12 #[at' g] w fun e w' => e = .returned (.int .i64 n) ∧ w = w' := by
  have p0 : w.cell? ⟨g, 0, none⟩ = some (.int .i64 n) := H.blk.cell 0
  have hn := hid H.pos
  unfold at'
  clear H
  go_enter Tryz.func12, Tryz.ntmps12
  go_wp2_with fail
  refine (made_any g n hn.out w p0).mono ?_
  rintro e w' ⟨rfl, rfl⟩
  go_wp2_with fail
  go_ret
  exact ⟨rfl, rfl⟩
theorem unflushed2_any (H : Mm w g rs rd vl vm ms n S D log marks f h) : Calls Tryz.prog 15 #[at' g] w fun e w' => e = .returned (.int .i64 (log.length : Nat)) ∧ w = w' := by
  have p0 : w.cell? ⟨g, 0, none⟩ = some (.int .i64 n) := H.blk.cell 0
  obtain ⟨A, c, e, _⟩ := H.lg.sli atL_len
  have p3 : w.cell? ⟨g, 3, none⟩ = some (.slice A log.length c) := by rw [← e]; exact H.blk.cell 3
  have hn := hid H.pos
  unfold at'
  clear H e
  go_enter Tryz.func15, Tryz.ntmps15
  go_wp2_with fail
  refine (made_any g n hn.out w p0).mono ?_
  rintro e w' ⟨rfl, rfl⟩
  go_wp2_with fail
  go_ret
  exact ⟨rfl, rfl⟩
theorem fail2_any (H : Mm w g rs rd vl vm ms n S D log marks f h) (q : Bool) : Calls Tryz.prog 25 #[at' g, .bool q] w fun e w' => e = .returned (.int .i64 0) ∧ Mm w' g rs rd vl vm ms n S D log marks q (h || q) ∧ Turn (fun b => b = g) w w' := by
  have p0 : w.cell? ⟨g, 0, none⟩ = some (.int .i64 n) := H.blk.cell 0
  have HH := hid H
  have hn := hid H.pos
  have fz := H.blk.frozen 5
  have p5 : w.cell? ⟨g, 5, none⟩ = some (.bool f) := H.blk.cell 5
  unfold at'
  clear H
  go_enter Tryz.func25, Tryz.ntmps25
  go_wp2_with fail
  refine (made_any g n hn.out w p0).mono ?_
  rintro e w' ⟨rfl, rfl⟩
  go_upto_region 4 with fail
  have b1 : Blk (w.setCell ⟨g, 5, none⟩ (.bool q)) g 123 (mbC7 n rs rd vl vm q h) := HH.out.blk.setCell_same 5 (.bool q)
  have tu := Turn.setCell (S := fun b => b = g) w ⟨g, 5, none⟩ (.bool q) rfl
  have H1 := hid (HH.out.flags q h tu b1)
  have TU := hid tu
  generalize World.setCell w _ _ = w1 at H1 TU ⊢
  have p6 : w1.cell? ⟨g, 6, none⟩ = some (.bool h) := H1.out.blk.cell 6
  have fz := H1.out.blk.frozen 6
  have b2 : Blk (w1.setCell ⟨g, 6, none⟩ (.bool (h || q))) g 123 (mbC7 n rs rd vl vm q (h || q)) := H1.out.blk.setCell_same 6 (.bool (h || q))
  have tu2 := Turn.setCell (S := fun b => b = g) w1 ⟨g, 6, none⟩ (.bool (h || q)) rfl
  have hfin := hid (And.intro (H1.out.flags q (h || q) tu2 b2) (TU.out.trans tu2 fun _ e => .inl e))
  clear HH b1 tu H1 TU b2 tu2
  cases h with
  | false =>
    go_wp2_with fail
    go_ret
    exact ⟨rfl, hfin.out⟩
  | true =>
    go_wp2_with fail
    go_ret
    exact ⟨rfl, hfin.out⟩
end
end MbO
end Go.Proofs.YtklmjdhhnnanoaaGreatDoor
set_option maxRecDepth 100000
namespace Go.Proofs.YtklmjdhhnnanoaaGreatDoor
open Go.ChangeShapes Go.WideShapes Go.ChangeAt Go.RowKit
attribute [local go_sem] Gives
namespace MbO
open MbM MbP
def keptB (l : List Pt) (q : Nat → Bool) (n : Nat) : List Pt := (List.range n).flatMap fun k => if q k then l[k]?.toList else []
theorem keptB_step (l : List Pt) (q : Nat → Bool) (k : Nat) : keptB l q (k + 1) = keptB l q k ++ (if q k then l[k]?.toList else []) := by
  unfold keptB
  rw [List.range_succ, List.flatMap_append, List.flatMap_singleton]
theorem keptB_yes {l : List Pt} {q : Nat → Bool} {k : Nat} {p : Pt} (hp : l[k]? = some p) (h : q k = true) : keptB l q (k + 1) = keptB l q k ++ [p] := by
  rw [keptB_step, if_pos h, hp]; rfl
theorem keptB_no {l : List Pt} {q : Nat → Bool} {k : Nat} (h : q k = false) : keptB l q (k + 1) = keptB l q k := by
  rw [keptB_step, if_neg (by simp [h]), List.append_nil]
theorem keptB_all (l : List Pt) : ∀ n, n ≤ l.length → keptB l (fun _ => true) n = l.take n
  | 0, _ => by rw [List.take_zero]; rfl
  | n + 1, h => by
    rw [keptB_yes (p := l[n]) (List.getElem?_eq_getElem (by omega)) rfl, keptB_all l n (by omega), List.take_add_one, List.getElem?_eq_getElem (by omega)]; rfl
theorem keptB_picks (l : List Pt) (picks : List Nat) (n : Nat) : keptB l (fun k => decide (picks.getD k 0 ≠ 0)) n = keptN l picks n := by
  unfold keptB keptN
  congr 1
  funext k
  by_cases e : picks.getD k 0 = 0
  · rw [if_neg (by rw [decide_eq_true_eq]; exact fun h => h e), if_pos e]
  · rw [if_pos (by simp only [decide_eq_true_eq]; exact e), if_neg e]
theorem app_out {i : Int} : ∀ {l : List Pt} {d : Img}, (∀ p ∈ l, p.i ≠ i) → app d l i = d i
  | [], d, _ => rfl
  | p :: l, d, h => by
    rw [app_cons, app_out fun q hq => h q (List.mem_cons_of_mem _ hq)]
    unfold upd
    rw [if_neg fun e => h p List.mem_cons_self e.symm]
theorem app_in {i : Int} {x : Nat → Nat} : ∀ {l : List Pt} {d : Img}, (∀ p ∈ l, p.i = i → p.s = x) → (∃ p ∈ l, p.i = i) → app d l i = x
  | [], d, _, ⟨p, hp, _⟩ => by cases hp
  | p :: l, d, h, he => by
    rw [app_cons]
    by_cases e : ∃ q ∈ l, q.i = i
    · exact app_in (fun q hq => h q (List.mem_cons_of_mem _ hq)) e
    · rw [app_out fun q hq hi => e ⟨q, hq, hi⟩]
      obtain ⟨q, hq, hi⟩ := he
      rcases List.mem_cons.1 hq with rfl | hq
      · unfold upd
        rw [if_pos hi.symm]
        exact h q List.mem_cons_self hi
      · exact absurd ⟨q, hq, hi⟩ e
theorem resee {d : Img} {l k : List Pt} (hk : ∀ p ∈ k, p ∈ l) : app (app d l) (l.map fun p => ⟨p.i, app d k p.i⟩) = app d k := by
  funext i
  by_cases h : ∃ p ∈ l, p.i = i
  · obtain ⟨p, hp, hi⟩ := h
    refine app_in (fun q hq e => ?_) ⟨⟨p.i, app d k p.i⟩, List.mem_map.2 ⟨p, hp, rfl⟩, hi⟩
    obtain ⟨p2, _, rfl⟩ := List.mem_map.1 hq
    show app d k p2.i = app d k i
    rw [show p2.i = i from e]
  · rw [app_out fun q hq e => ?_, app_out fun p hp e => h ⟨p, hp, e⟩, app_out fun p hp e => h ⟨p, hk p hp, e⟩]
    obtain ⟨p2, hp2, rfl⟩ := List.mem_map.1 hq
    exact h ⟨p2, hp2, e⟩
section
variable {w w' : World} {g rs rd : Nat} {vl vm : Value} {ms : List Nat} {n : Int} {S D S' D' : Img} {log : List Pt} {marks : List Img} {f h : Bool}
theorem Mm.setD (H : Mm w g rs rd vl vm ms n S D log marks f h) (ht : Turn (fun b => b = rd) w w') (hd : MapB w' rd D') : Mm w' g rs rd vl vm ms n S D' log marks f h where
  blk := H.blk.turn ht H.g_rd
  pos := H.pos
  seen := H.seen.turn ht H.ne
  dur := hd
  lg := H.lg.turn ht fun b e e2 => H.l_rd (by rw [e, e2])
  mr := H.mr.turn ht fun b e e2 => H.m_rd (by rw [e, e2])
  len := H.len
  im i m F h1 h2 := (H.im i m F h1 h2).turn ht fun e => (H.out m (List.mem_of_getElem? h1)).2 e
  ne := H.ne
  out := H.out
theorem Mm.setS (H : Mm w g rs rd vl vm ms n S D log marks f h) (ht : Turn (fun b => b = rs) w w') (hs : MapB w' rs S') : Mm w' g rs rd vl vm ms n S' D log marks f h where
  blk := H.blk.turn ht H.g_rs
  pos := H.pos
  seen := hs
  dur := H.dur.turn ht H.ne.symm
  lg := H.lg.turn ht fun b e e2 => H.l_rs (by rw [e, e2])
  mr := H.mr.turn ht fun b e e2 => H.m_rs (by rw [e, e2])
  len := H.len
  im i m F h1 h2 := (H.im i m F h1 h2).turn ht fun e => (H.out m (List.mem_of_getElem? h1)).1 e
  ne := H.ne
  out := H.out
theorem Mm.noLog (H : Mm w g rs rd vl vm ms n S D log marks f h) : Mm (w.setCell ⟨g, 3, none⟩ (.slice none 0 0)) g rs rd (.slice none 0 0) vm ms n S D [] marks f h where
  blk := H.blk.setCell_same 3 _
  pos := H.pos
  seen := H.seen.turn (Turn.setCell (S := fun b => b = g) w ⟨g, 3, none⟩ _ rfl) fun e => H.g_rs e.symm
  dur := H.dur.turn (Turn.setCell (S := fun b => b = g) w ⟨g, 3, none⟩ _ rfl) fun e => H.g_rd e.symm
  lg := OwnX.nil _ _ _ _ _
  mr := H.mr.turn (Turn.setCell (S := fun b => b = g) w ⟨g, 3, none⟩ _ rfl) fun b e e2 => H.m_g (by rw [e, e2])
  len := H.len
  im i m F h1 h2 := (H.im i m F h1 h2).turn (Turn.setCell (S := fun b => b = g) w ⟨g, 3, none⟩ _ rfl) fun e => map_ne (H.im i m F h1 h2) H.blk e.symm
  ne := H.ne
  out := H.out
end
section
variable {ops : Array Oper} {Q : Exit → Act → World → Prop} {a : Act} {w : World} {rest : List Oper} {dst : Option Tmp} {ty T : TypeId} {pos : String} {after : Array Edge} {z : Array Value} {C : World → Prop} {Qk : Act → Prop} {gd : Option (Nat × Bool)} {m x : Operand} {r : Nat} {i : Int} {F : Img}
theorem alZ (hz : ∀ w, (zeroValue T).run Tryz.prog w = .ok (.agg z) w) (h : wpList Tryz.prog ops Q rest (a.put dst (.pointer (some ⟨w.heap.size, 0, none⟩))) (w.alloc (.cells z T))) :
    wpList Tryz.prog ops Q (⟨dst, .alloc T, ty, pos, after, none⟩ :: rest) a w := by
  have hr : (Instr.alloc T true (.tuple #[])).run Tryz.prog w = .ok (.pointer (some ⟨w.heap.size, 0, none⟩)) (w.alloc (.cells z T)) := by
    simp [Instr.alloc, Sem.run_bind, hz w, newVar, newRow, Value.cells]
  refine wpList_plain rfl fun K hK => ?_
  unfold Oper.wp execOp
  simp only [Sem.run_bind, hr, Result.andThen_ok, Sem.run_pure]
  exact hK _ _ h
theorem klookM (hwt : Region.wanted ⟨dst, .lookup 119 m x false, ty, pos, after, gd⟩ (yielded ops a.tmps) = true) (hm : a.eval m = .map (some r)) (hx : a.eval x = .int .i64 i) (h : ∀ w, C w → MapB w r F)
    (hk : wpK Tryz.prog ops C Qk rest (a.put dst (.agg (ar 64 (F i))))) : wpK Tryz.prog ops C Qk (⟨dst, .lookup 119 m x false, ty, pos, after, gd⟩ :: rest) a :=
  wpK_val hwt (fun w hw => gives_value (w' := w) (by simp [execOp, hm, hx, run_look (h w hw) i, Result.andThen]) hw) hk
end
theorem cf_yes (args : Array Value) (w : World) : (callFunc 119 args).run Tryz.prog w = .ok (.enter 119 args) w := by
  simp [callFunc, Tryz.func119, Tryz.f119]
theorem cf_pick (args : Array Value) (w : World) : (callFunc 183 args).run Tryz.prog w = .ok (.enter 183 args) w := by
  simp [callFunc, Tryz.func183, Tryz.f183]
theorem zWr (w : World) : (zeroValue 146).run Tryz.prog w = .ok (.agg (atL ⟨0, zero⟩).toArray) w := (zero_of_info (P := Tryz.prog) (t := 146) (v := .agg (atL ⟨0, zero⟩).toArray) (n := 65) (by kernel_rfl)).1 w
theorem atL_size (p q : Pt) : (atL p).toArray.size = (atL q).toArray.size := by rw [List.size_toArray, List.size_toArray, atL_len, atL_len]
section
variable {w : World} {g rs rd : Nat} {vl vm : Value} {ms : List Nat} {n : Int} {S D : Img} {log : List Pt} {marks : List Img} {f h : Bool}
set_option maxHeartbeats 1000000 in
set_option maxRecDepth 100000 in
theorem settle_any (fn : FuncId) (cap : Array Value) (q : Nat → Bool) (hcf : ∀ args w, (callFunc fn args).run Tryz.prog w = .ok (.enter fn args) w) (H : Mm w g rs rd vl vm ms n S D log marks f h) (hlen : log.length ≤ 1000000)
    (hq : ∀ (k : Nat) w1, k < log.length → Turn (fun b => b = rd) w w1 → Calls Tryz.prog fn (#[.int .i64 k] ++ cap) w1 fun e w' => e = .returned (.bool (q k)) ∧ w1 = w') :
    Calls Tryz.prog 118 #[at' g, .func (.func fn) #[] cap] w fun e w' => ∃ E, E = app D (keptB log q log.length) ∧ e = .returned (.tuple #[]) ∧
      Mm w' g rs rd (.slice none 0 0) vm ms n (app S (log.map fun p => ⟨p.i, E p.i⟩)) E [] marks f h ∧ Turn (fun b => b = g ∨ b = rs ∨ b = rd) w w' := by
  obtain ⟨A, c, rfl, _⟩ := H.lg.sli atL_len
  have HH := hid H
  have HQ := hid hq
  have p3 : w.cell? ⟨g, 3, none⟩ = some (.slice A log.length c) := H.blk.cell 3
  unfold at'
  clear H hq
  go_enter Tryz.func118, Tryz.ntmps118
  go_wp2_with fail
  go_loopw [13] (fun u wr => ∃ k : Nat, u = .int .i64 k ∧ k ≤ log.length ∧ Hid (Mm wr g rs rd (.slice A log.length c) vm ms n S (app D (keptB log q k)) log marks f h) ∧ Hid (Turn (fun b => b = rd) w wr)) (fun u _ => log.length - (intOf u).toNat)
  case atStart => exact ⟨0, rfl, Nat.zero_le _, hid HH.out, hid (Turn.refl _ _)⟩
  case round =>
    obtain ⟨k, rfl, hk, hM, hT⟩ := hrel
    by_cases hgo : k < log.length
    · have t1 : (k : Int) < (log.length : Int) := by omega
      obtain ⟨p, hp⟩ : ∃ p, log[k]? = some p := ⟨_, List.getElem?_eq_getElem hgo⟩
      obtain ⟨A', c', e', sl⟩ := hM.out.lg.sli atL_len
      cases e'
      obtain ⟨b, o, rfl, _, hbl, hr⟩ := sl.some hp
      have HR := hid hr
      have HP := hid hp
      clear sl hr hp
      go_upto_region 3 with (first
        | ((with_reducible apply ldR (cs := (atL p).toArray) (tWr p)); rfl; exact HR.out)
        | (with_reducible apply alZ zWr)
        | ((with_reducible apply stR (tWr p)); rfl; rfl; exact Blk.new _ _ _; exact atL_size _ _; exact at_one p))
      generalize hw2 : World.setRow _ _ _ = w2
      have b2 := hid (show Blk w2 wr.heap.size 146 (atL p).toArray by rw [← hw2]; exact (Blk.new wr _ _).setRow_same _)
      have h2 := hid (show Below wr.heap.size wr w2 by rw [← hw2]; exact below_setRow ((Below.refl _ _).alloc (Nat.le_refl _) _) (Nat.le_refl _) _)
      have M2 := hid (hM.out.below h2.out)
      have T2 := hid (show Turn (fun b => b = rd) w w2 from hT.out.trans (Turn.of_new (S := fun b => b = rd) h2.out) fun _ e => .inl e)
      clear hw2 hM hT h2 HR
      go_wp2_with fail
      refine (HQ.out k w2 hgo T2.out).mono ?_
      rintro e w3 ⟨rfl, rfl⟩
      obtain ⟨v, hv⟩ : ∃ v, v = q k := ⟨_, rfl⟩
      rw [← hv]
      have HV := hid hv.symm
      clear hv
      cases v with
      | false =>
        have hk1 := hid (show keptB log q (k + 1) = keptB log q k from keptB_no HV.out)
        go_wp2_with fail
        go_roundw
        case rel => exact ⟨k + 1, by go_num, by omega, hid (by rw [hk1.out]; exact M2.out), T2⟩
        case measure => simp [intOf] <;> omega
      | true =>
        have hk1 := hid (show app D (keptB log q (k + 1)) = upd (app D (keptB log q k)) ⟨p.i, p.s⟩ by rw [keptB_yes HP.out HV.out, app_snoc])
        go_upto_region 4 with fail
        refine wp_region_tail (C := fun w' => Below w2.heap.size w2 w') 8 (by kernel_rfl) (by kernel_rfl) (by kernel_rfl) (Below.refl _ _).drew ?_
        apply wpK_val
        · rfl
        · intro w' hw'
          go_simp
          first | exact rfl | exact ⟨rfl, hw'⟩
        simp only [Act.put, sqA, sqB, sqC]
        apply wpK_val
        · rfl
        · intro w' hw'
          go_simp
          first | exact rfl | exact ⟨rfl, hw'⟩
        simp only [Act.put, sqA, sqB, sqC]
        apply wpK_val
        · rfl
        · intro w' hw'
          go_simp
          first | exact rfl | exact ⟨rfl, hw'⟩
        simp only [Act.put, sqA, sqB, sqC]
        apply wpK_val
        · rfl
        · intro w' hw'
          have hcell := (M2.out.below hw').blk.cell 2
          go_simp
          first | exact rfl | exact ⟨rfl, hw'⟩
        simp only [Act.put, sqA, sqB, sqC]
        apply wpK_val
        · rfl
        · intro w' hw'
          go_simp
          first | exact rfl | exact ⟨rfl, hw'⟩
        simp only [Act.put, sqA, sqB, sqC]
        apply wpK_val
        · rfl
        · intro w' hw'
          have hcell := at_i ((b2.out.below hw' b2.out.lt).whole)
          go_simp
          first | exact rfl | exact ⟨rfl, hw'⟩
        simp only [Act.put, sqA, sqB, sqC]
        apply wpK_val
        · rfl
        · intro w' hw'
          go_simp
          first | exact rfl | exact ⟨rfl, hw'⟩
        simp only [Act.put, sqA, sqB, sqC]
        apply kldA tSe
        · rfl
        · rfl
        · exact fun w' hw' => at_s ((b2.out.below hw' b2.out.lt).whole)
        simp only [Act.put, sqA, sqB, sqC]
        intro w3 hC3
        have M3 := hid (M2.out.below hC3)
        have T3 := hid (T2.out.trans (Turn.of_new (S := fun b => b = rd) hC3) fun _ e => .inl e)
        clear b2 M2 T2 hC3
        go_wp2_with fail
        refine (put_any rd (app D (keptB log q k)) p.i p.s w3 M3.out.dur).mono ?_
        rintro e w4 ⟨rfl, m4, t4⟩
        have M4 := hid (M3.out.setD t4 m4)
        have T4 := hid (T3.out.trans t4 fun _ e => .inl e)
        clear M3 T3 m4 t4
        go_wp2_with fail
        go_roundw
        case rel => exact ⟨k + 1, by go_num, by omega, hid (by rw [hk1.out]; exact M4.out), T4⟩
        case measure => simp [intOf] <;> omega
    · have hkl : k = log.length := by omega
      subst hkl
      have t1 : ¬ log.length < log.length := by omega
      obtain ⟨E, hE⟩ : ∃ E, E = app D (keptB log q log.length) := ⟨_, rfl⟩
      have HE := hid hE
      rw [← hE] at hM
      have p3 : wr.cell? ⟨g, 3, none⟩ = some (.slice A log.length c) := hM.out.blk.cell 3
      clear HH HQ hgo hk hE
      go_wp2_with fail
      go_loopw [36] (fun u wr => ∃ k : Nat, u = .int .i64 k ∧ k ≤ log.length ∧ Hid (Mm wr g rs rd (.slice A log.length c) vm ms n (app S ((log.take k).map fun p => ⟨p.i, E p.i⟩)) E log marks f h) ∧ Hid (Turn (fun b => b = g ∨ b = rs ∨ b = rd) w wr)) (fun u _ => log.length - (intOf u).toNat)
      case atStart => exact ⟨0, rfl, Nat.zero_le _, hid (by rw [List.take_zero]; exact hM.out), hid (hT.out.mono fun _ e => .inr (.inr e))⟩
      case round =>
        clear hM hT
        obtain ⟨k, rfl, hk, hM, hT⟩ := hrel
        by_cases hgo : k < log.length
        · have t1 : (k : Int) < (log.length : Int) := by omega
          obtain ⟨p, hp⟩ : ∃ p, log[k]? = some p := ⟨_, List.getElem?_eq_getElem hgo⟩
          obtain ⟨A', c', e', sl⟩ := hM.out.lg.sli atL_len
          cases e'
          obtain ⟨b, o, rfl, _, hbl, hr⟩ := sl.some hp
          have HR := hid hr
          have hk1 := hid (show app S ((log.take (k + 1)).map fun p => ⟨p.i, E p.i⟩) = upd (app S ((log.take k).map fun p => ⟨p.i, E p.i⟩)) ⟨p.i, E p.i⟩ by
            rw [List.take_add_one, hp, Option.toList_some, List.map_append, List.map_cons, List.map_nil, app_snoc])
          clear sl hr hp
          go_upto_region 9 with (first
            | ((with_reducible apply ldR (cs := (atL p).toArray) (tWr p)); rfl; exact HR.out)
            | (with_reducible apply alZ zWr)
            | ((with_reducible apply stR (tWr p)); rfl; rfl; exact Blk.new _ _ _; exact atL_size _ _; exact at_one p))
          generalize hw2 : World.setRow _ _ _ = w3
          have b2 := hid (show Blk w3 wr.heap.size 146 (atL p).toArray by rw [← hw2]; exact (Blk.new wr _ _).setRow_same _)
          have h2 := hid (show Below wr.heap.size wr w3 by rw [← hw2]; exact below_setRow ((Below.refl _ _).alloc (Nat.le_refl _) _) (Nat.le_refl _) _)
          have M2 := hid (hM.out.below h2.out)
          have T2 := hid (show Turn (fun b => b = g ∨ b = rs ∨ b = rd) w w3 from hT.out.trans (Turn.of_new (S := fun b => b = g) h2.out) fun _ e => .inl (.inl e))
          clear hw2 hM hT h2 HR
          refine wp_region_tail (C := fun w' => Below w3.heap.size w3 w') 13 (by kernel_rfl) (by kernel_rfl) (by kernel_rfl) (Below.refl _ _).drew ?_
          apply wpK_val
          · rfl
          · intro w' hw'
            go_simp
            first | exact rfl | exact ⟨rfl, hw'⟩
          simp only [Act.put, sqA, sqB, sqC]
          apply wpK_val
          · rfl
          · intro w' hw'
            go_simp
            first | exact rfl | exact ⟨rfl, hw'⟩
          simp only [Act.put, sqA, sqB, sqC]
          apply wpK_val
          · rfl
          · intro w' hw'
            go_simp
            first | exact rfl | exact ⟨rfl, hw'⟩
          simp only [Act.put, sqA, sqB, sqC]
          apply wpK_val
          · rfl
          · intro w' hw'
            have hcell := (M2.out.below hw').blk.cell 1
            go_simp
            first | exact rfl | exact ⟨rfl, hw'⟩
          simp only [Act.put, sqA, sqB, sqC]
          apply wpK_val
          · rfl
          · intro w' hw'
            go_simp
            first | exact rfl | exact ⟨rfl, hw'⟩
          simp only [Act.put, sqA, sqB, sqC]
          apply wpK_val
          · rfl
          · intro w' hw'
            have hcell := at_i ((b2.out.below hw' b2.out.lt).whole)
            go_simp
            first | exact rfl | exact ⟨rfl, hw'⟩
          simp only [Act.put, sqA, sqB, sqC]
          apply wpK_val
          · rfl
          · intro w' hw'
            go_simp
            first | exact rfl | exact ⟨rfl, hw'⟩
          simp only [Act.put, sqA, sqB, sqC]
          apply wpK_val
          · rfl
          · intro w' hw'
            go_simp
            first | exact rfl | exact ⟨rfl, hw'⟩
          simp only [Act.put, sqA, sqB, sqC]
          apply wpK_val
          · rfl
          · intro w' hw'
            go_simp
            first | exact rfl | exact ⟨rfl, hw'⟩
          simp only [Act.put, sqA, sqB, sqC]
          apply wpK_val
          · rfl
          · intro w' hw'
            have hcell := (M2.out.below hw').blk.cell 2
            go_simp
            first | exact rfl | exact ⟨rfl, hw'⟩
          simp only [Act.put, sqA, sqB, sqC]
          apply wpK_val
          · rfl
          · intro w' hw'
            go_simp
            first | exact rfl | exact ⟨rfl, hw'⟩
          simp only [Act.put, sqA, sqB, sqC]
          apply wpK_val
          · rfl
          · intro w' hw'
            have hcell := at_i ((b2.out.below hw' b2.out.lt).whole)
            go_simp
            first | exact rfl | exact ⟨rfl, hw'⟩
          simp only [Act.put, sqA, sqB, sqC]
          apply klookM (r := rd) (i := p.i) (F := E)
          · rfl
          · rfl
          · rfl
          · exact fun w' hw' => (M2.out.below hw').dur
          simp only [Act.put, sqA, sqB, sqC]
          intro w4 hC4
          have M4 := hid (M2.out.below hC4)
          have T4 := hid (T2.out.trans (Turn.of_new (S := fun b => b = g) hC4) fun _ e => .inl (.inl e))
          clear b2 M2 T2 hC4
          go_wp2_with fail
          refine (put_any rs (app S ((log.take k).map fun p => ⟨p.i, E p.i⟩)) p.i (E p.i) w4 M4.out.seen).mono ?_
          rintro e w5 ⟨rfl, m5, t5⟩
          have M5 := hid (M4.out.setS t5 m5)
          have T5 := hid (T4.out.trans t5 fun _ e => .inl (.inr (.inl e)))
          clear M4 T4 m5 t5
          go_wp2_with fail
          go_roundw
          case rel => exact ⟨k + 1, by go_num, by omega, hid (by rw [hk1.out]; exact M5.out), T5⟩
          case measure => simp [intOf] <;> omega
        · have hkl : k = log.length := by omega
          subst hkl
          have t1 : ¬ log.length < log.length := by omega
          rw [List.take_length] at hM
          have p3 : wr.cell? ⟨g, 3, none⟩ = some (.slice A log.length c) := hM.out.blk.cell 3
          have fz := hM.out.blk.frozen 3
          have hfin := hid (And.intro hM.out.noLog (hT.out.trans (Turn.setCell (S := fun b => b = g) wr ⟨g, 3, none⟩ (.slice none 0 0) rfl) fun _ e => .inl (.inl e)))
          clear hM hT hgo hk
          go_wp2_with fail
          go_end0
          exact ⟨E, HE.out, rfl, hfin.out⟩
theorem sem_settle {st : St} {k : List Pt} (hk : ∀ p ∈ k, p ∈ st.log) : app (MbM.seen st) (st.log.map fun p => ⟨p.i, app st.dur k p.i⟩) = app st.dur k := resee hk
set_option maxHeartbeats 400000 in
theorem flush2_any (H : Mm w g rs rd vl vm ms n S D log marks f h) (hlen : log.length ≤ 1000000) :
    Calls Tryz.prog 91 #[at' g] w fun e w' => (f = true ∧ e = .returned (.int .i64 10) ∧ w = w') ∨ (f = false ∧ ∃ E, E = app D log ∧ e = .returned (.int .i64 0) ∧
      Mm w' g rs rd (.slice none 0 0) vm ms n (app S (log.map fun p => ⟨p.i, E p.i⟩)) E [] marks f h ∧ Turn (fun b => b = g ∨ b = rs ∨ b = rd) w w') := by
  have HH := hid H
  have hn := hid H.pos
  have hq := hid (show decide ((0 : Int) ≤ 0 ∧ 0 < n) = true by simp; exact H.pos)
  have p0 : w.cell? ⟨g, 0, none⟩ = some (.int .i64 n) := H.blk.cell 0
  have p5 : w.cell? ⟨g, 5, none⟩ = some (.bool f) := H.blk.cell 5
  unfold at'
  clear H
  go_enter Tryz.func91, Tryz.ntmps91
  go_wp2_with fail
  refine (reach_any g n hn.out 0 true f hq.out w p0 p5).mono ?_
  rintro e w' ⟨rfl, rfl⟩
  cases f with
  | true =>
    go_wp2_with fail
    go_ret
    exact ⟨rfl, rfl⟩
  | false =>
    go_wp2_with fail
    refine (settle_any 119 #[] (fun _ => true) cf_yes HH.out hlen fun k w1 _ _ => yes_any k w1).mono ?_
    rintro e w2 ⟨E, hE, rfl, M2, T2⟩
    have M2 := hid M2
    have T2 := hid T2
    have HE := hid (show E = app D log by rw [hE, keptB_all log _ (Nat.le_refl _), List.take_length])
    clear hE
    have M3 := hid (show Mm w2 g rs rd (.slice none 0 0) vm ms n (app S (log.map fun p => ⟨p.i, app D log p.i⟩)) (app D log) [] marks false h by have := M2.out; rw [HE.out] at this; exact this)
    go_wp2_with fail
    go_ret
    exact ⟨rfl, M3.out, T2.out⟩
set_option maxHeartbeats 400000 in
theorem crash2_any (H : Mm w g rs rd vl vm ms n S D log marks f h) (hlen : log.length ≤ 1000000) (P : Option Addr) (picks : List Nat) (pn pc : Nat) (hp : Arg w P picks pn pc) (hne : ∀ b o, 0 < picks.length → P = some ⟨b, o, none⟩ → b ≠ rd) :
    Calls Tryz.prog 177 #[at' g, .slice P pn pc] w fun e w' => ∃ E, E = app D (kept log picks) ∧ e = .returned (.int .i64 0) ∧
      Mm w' g rs rd (.slice none 0 0) vm ms n (app S (log.map fun p => ⟨p.i, E p.i⟩)) E [] marks f h ∧ Turn (fun b => b = g ∨ b = rs ∨ b = rd) w w' := by
  have HH := hid H
  have hn := hid H.pos
  have HP := hid hp
  have HN := hid hne
  unfold at'
  clear H hp hne
  go_enter Tryz.func177, Tryz.ntmps177
  go_upto_region 1 with fail
  generalize hw1 : World.alloc w _ = w1
  have b1 := hid (show Blk w1 w.heap.size 93 #[.slice P pn pc] by rw [← hw1]; exact Blk.new _ _ _)
  have BEL := hid (show Below w.heap.size w w1 by rw [← hw1]; exact (Below.refl _ _).alloc (Nat.le_refl _) _)
  have H1 := hid (HH.out.below BEL.out)
  have P1 := hid (HP.out.on BEL.out)
  have hgl := HH.out.dur.lt
  clear hw1 HP
  have p0 : w1.cell? ⟨g, 0, none⟩ = some (.int .i64 n) := H1.out.blk.cell 0
  go_wp2_with fail
  refine (made_any g n hn.out w1 p0).mono ?_
  rintro e w' ⟨rfl, rfl⟩
  go_wp2_with fail
  refine (settle_any 183 #[.pointer (some ⟨w.heap.size, 0, none⟩)] (fun k => decide (picks.getD k 0 ≠ 0)) cf_pick H1.out hlen fun k w2 _ ht => picked_any w.heap.size P picks pn pc k w2 ?_ ?_).mono ?_
  · exact (b1.out.turn ht (by omega)).cell 0
  · exact P1.out.turn ht fun b o h1 h2 => HN.out b o h1 h2
  rintro e w2 ⟨E, hE, rfl, M2, T2⟩
  have M2 := hid M2
  have T2 := hid ((Turn.of_new (S := fun b => b = g ∨ b = rs ∨ b = rd) BEL.out).trans T2 fun _ e => .inl e)
  have HE := hid (show E = app D (kept log picks) by rw [hE, keptB_picks]; rfl)
  clear hE
  go_wp2_with fail
  go_ret
  exact ⟨E, HE.out, rfl, M2.out, T2.out⟩
end
end MbO
end Go.Proofs.YtklmjdhhnnanoaaGreatDoor
set_option maxRecDepth 100000
namespace Go.Proofs.YtklmjdhhnnanoaaGreatDoor
open Go.ChangeShapes Go.WideShapes Go.ChangeAt Go.RowKit
attribute [local go_sem] Gives GivesE
namespace MbO
open MbM MbP
theorem built_wr (i : Int) (x : Nat → Nat) : Tryz.prog.built 146 [(0, .int .i64 i), (1, .agg (ar 64 x))] = some (atL ⟨i, x⟩).toArray := by
  have h := built_struct (T := 146) (ss := [(0, 1), (1, 64)]) (N := 65) (by kernel_rfl) Tryz.underlying146 (by kernel_rfl) ⟨rfl, rfl, trivial⟩ rfl [.int .i64 i, .agg (ar 64 x)] (by simp [Value.cells, size_ar])
  simp only [partsAt] at h
  rw [h]
  simp [atL, Value.cells]
section
variable {a : Act} {w : World} {dst : Option Tmp} {ty : TypeId} {pos : String} {after : Array Edge} {o1 o2 : Operand} {i : Int} {x : Nat → Nat}
theorem gE_wr {gd : Option (Nat × Bool)} {R : Value → World → Prop} (h1 : a.eval o1 = .int .i64 i) (h2 : a.eval o2 = .agg (ar 64 x)) (h : R (.agg (atL ⟨i, x⟩).toArray) w) : GivesE Tryz.prog ⟨dst, .build 146 #[(0, o1), (1, o2)], ty, pos, after, gd⟩ a w R := by
  have hm : (#[(0, o1), (1, o2)] : Array (Nat × Operand)).map (fun (i, x) => (i, a.eval x)) = #[(0, .int .i64 i), (1, .agg (ar 64 x))] := by
    simp only [List.map_toArray, List.map_cons, List.map_nil, h1, h2]
  have hr : (Instr.build 146 #[(0, .int .i64 i), (1, .agg (ar 64 x))]).run Tryz.prog w = .ok (.agg (atL ⟨i, x⟩).toArray) w := run_build w _ _ _ (built_wr i x)
  unfold GivesE execOp
  simp only [Sem.run_bind, hm, hr, Result.andThen_ok, Sem.run_pure]
  exact h
end
structure MkC (w0 : World) (vm : Value) (l : List (Option Nat)) (S : Img) (d9 d10 d11 : Bool) (v9 v10 v11 : Value) (w' : World) : Prop where
  t : Turn (fun b => vm.ownBlock = some b) w0 w'
  b : d11 = false → Below w0.heap.size w0 w'
  c1 : d11 = true → d10 = true
  c2 : d10 = true → d9 = true
  im : d9 = true → ∃ r, v9 = .map (some r) ∧ MapB w' r S ∧ w0.heap.size ≤ r
  lit : d10 = true → d11 = false → ∃ A c r, v9 = .map (some r) ∧ v10 = .slice A 1 c ∧ Sli 1 imE (fun b => w0.heap.size ≤ b) w' A [some r] 1 c
  own : d11 = true → ∃ r, v9 = .map (some r) ∧ OwnM w' 0 v11 (l ++ [some r]) ∧ ∀ b, v11.ownBlock = some b → vm.ownBlock = some b ∨ w0.heap.size ≤ b
section
variable {w w' : World} {g rs rd : Nat} {vl vl' vm vm' : Value} {ms ms' : List Nat} {n : Int} {S D : Img} {log log' : List Pt} {marks marks' : List Img} {f h : Bool}
theorem Mm.setL (H : Mm w g rs rd vl vm ms n S D log marks f h) (ht : Turn (fun b => vl.ownBlock = some b) w w') (ho : OwnL w' 0 vl' log') : Mm (w'.setCell ⟨g, 3, none⟩ vl') g rs rd vl' vm ms n S D log' marks f h := by
  have hb : Blk w' g 123 (mbC7 n rs rd vl vm f h) := H.blk.turn ht H.l_g
  have hs : MapB w' rs S := H.seen.turn ht H.l_rs
  have hd : MapB w' rd D := H.dur.turn ht H.l_rd
  have hm : OwnM w' 0 vm (ms.map some) := H.mr.turn ht fun b e e2 => H.l_m e2 e
  have hi : ∀ (i m : Nat) (F : Img), ms[i]? = some m → marks[i]? = some F → MapB w' m F := fun i m F h1 h2 => (H.im i m F h1 h2).turn ht fun e => by
    obtain ⟨c, hc⟩ := H.lg.obj e; exact map_ne (H.im i m F h1 h2) hc rfl
  have tu := Turn.setCell (S := fun b => b = g) w' ⟨g, 3, none⟩ vl' rfl
  exact {
    blk := hb.setCell_same 3 vl'
    pos := H.pos
    seen := hs.turn tu fun e => H.g_rs e.symm
    dur := hd.turn tu fun e => H.g_rd e.symm
    lg := ho.turn tu fun b e e2 => by
      obtain ⟨c, hc⟩ := ho.obj e
      have h2 : w'.heap[g]? = some (.cells _ 123 (0, 0)) := hb
      rw [e2, h2] at hc
      simp at hc
    mr := hm.turn tu fun b e e2 => H.m_g (by rw [e, e2])
    len := H.len
    im := fun i m F h1 h2 => (hi i m F h1 h2).turn tu fun e => map_ne (H.im i m F h1 h2) H.blk e.symm
    ne := H.ne
    out := H.out }
theorem Mm.setM (H : Mm w g rs rd vl vm ms n S D log marks f h) (ht : Turn (fun b => vm.ownBlock = some b) w w') (ho : OwnM w' 0 vm' (ms'.map some)) (hl : ms'.length = marks'.length)
    (him : ∀ (i m : Nat) (F : Img), ms'[i]? = some m → marks'[i]? = some F → MapB w' m F) (hout : ∀ m, m ∈ ms' → m ≠ rs ∧ m ≠ rd) : Mm (w'.setCell ⟨g, 4, none⟩ vm') g rs rd vl vm' ms' n S D log marks' f h := by
  have hb : Blk w' g 123 (mbC7 n rs rd vl vm f h) := H.blk.turn ht H.m_g
  have hs : MapB w' rs S := H.seen.turn ht H.m_rs
  have hd : MapB w' rd D := H.dur.turn ht H.m_rd
  have hl2 : OwnL w' 0 vl log := H.lg.turn ht fun b e e2 => H.l_m e e2
  have tu := Turn.setCell (S := fun b => b = g) w' ⟨g, 4, none⟩ vm' rfl
  exact {
    blk := hb.setCell_same 4 vm'
    pos := H.pos
    seen := hs.turn tu fun e => H.g_rs e.symm
    dur := hd.turn tu fun e => H.g_rd e.symm
    lg := hl2.turn tu fun b e e2 => H.l_g (by rw [e, e2])
    mr := ho.turn tu fun b e e2 => by
      obtain ⟨c, hc⟩ := ho.obj e
      have h2 : w'.heap[g]? = some (.cells _ 123 (0, 0)) := hb
      rw [e2, h2] at hc
      simp at hc
    len := hl
    im := fun i m F h1 h2 => (him i m F h1 h2).turn tu fun e => map_ne (him i m F h1 h2) hb e.symm
    ne := H.ne
    out := hout }
set_option maxHeartbeats 400000 in
theorem write2_bad (H : Mm w g rs rd vl vm ms n S D log marks f h) (i : Int) (q : Bool) (hq : decide (0 ≤ i ∧ i < n) = q) (x : Nat → Nat) (hb : q = false ∨ f = true) :
    Calls Tryz.prog 89 #[at' g, .int .i64 i, .agg (ar 64 x)] w fun e w' => e = .returned (.int .i64 (if q then (if f then 10 else 0) else 2)) ∧ Below w.heap.size w w' := by
  have HH := hid H
  have HQ := hid hq
  have hn := hid H.pos
  unfold at'
  clear H hq
  go_enter Tryz.func89, Tryz.ntmps89
  go_upto_region 1 with fail
  generalize hw1 : World.alloc w _ = w1
  have BEL := hid (show Below w.heap.size w w1 by rw [← hw1]; exact (Below.refl _ _).alloc (Nat.le_refl _) _)
  have H1 := hid (HH.out.below BEL.out)
  clear hw1 HH
  have p0 : w1.cell? ⟨g, 0, none⟩ = some (.int .i64 n) := H1.out.blk.cell 0
  have p5 : w1.cell? ⟨g, 5, none⟩ = some (.bool f) := H1.out.blk.cell 5
  go_wp2_with fail
  refine (reach_any g n hn.out i q f HQ.out w1 p0 p5).mono ?_
  rintro e w' ⟨rfl, rfl⟩
  cases q with
  | false =>
    go_wp2_with fail
    go_ret
    exact ⟨rfl, BEL.out⟩
  | true =>
    obtain rfl : f = true := by rcases hb with e | e; cases e; exact e
    go_wp2_with fail
    go_ret
    exact ⟨rfl, BEL.out⟩
set_option maxHeartbeats 1000000 in
set_option maxRecDepth 100000 in
theorem write2_any (H : Mm w g rs rd vl vm ms n S D log marks false h) (i : Int) (hq : decide (0 ≤ i ∧ i < n) = true) (x : Nat → Nat) (hlen : log.length ≤ 220000) :
    Calls Tryz.prog 89 #[at' g, .int .i64 i, .agg (ar 64 x)] w fun e w' => e = .returned (.int .i64 0) ∧ ∃ vl', Mm w' g rs rd vl' vm ms n (upd S ⟨i, x⟩) D (log ++ [⟨i, x⟩]) marks false h ∧
      (∀ b, vl'.ownBlock = some b → vl.ownBlock = some b ∨ w.heap.size ≤ b) ∧ Turn (mSet g rs rd vl vm) w w' := by
  obtain ⟨A, c, rfl, _⟩ := H.lg.sli atL_len
  have HH := hid H
  have HQ := hid hq
  have hn := hid H.pos
  unfold at'
  clear H hq
  go_enter Tryz.func89, Tryz.ntmps89
  go_upto_region 1 with fail
  generalize hw1 : World.alloc w _ = w1
  have b1 := hid (show Blk w1 w.heap.size 37 (ar 64 x) by rw [← hw1]; exact Blk.new _ _ _)
  have BEL := hid (show Below w.heap.size w w1 by rw [← hw1]; exact (Below.refl _ _).alloc (Nat.le_refl _) _)
  have H1 := hid (HH.out.below BEL.out)
  have hrs := HH.out.seen.lt
  clear hw1 HH
  have p0 : w1.cell? ⟨g, 0, none⟩ = some (.int .i64 n) := H1.out.blk.cell 0
  have p5 : w1.cell? ⟨g, 5, none⟩ = some (.bool false) := H1.out.blk.cell 5
  go_wp2_with fail
  refine (reach_any g n hn.out i true false HQ.out w1 p0 p5).mono ?_
  rintro e w' ⟨rfl, rfl⟩
  go_upto_region 4 with fail
  refine wp_region_tail (C := fun w' => Below w1.heap.size w1 w') 6 (by kernel_rfl) (by kernel_rfl) (by kernel_rfl) (Below.refl _ _).drew ?_
  apply wpK_val
  · rfl
  · intro w' hw'
    go_simp
    first | exact rfl | exact ⟨rfl, hw'⟩
  simp only [Act.put, sqA, sqB, sqC]
  apply wpK_val
  · rfl
  · intro w' hw'
    go_simp
    first | exact rfl | exact ⟨rfl, hw'⟩
  simp only [Act.put, sqA, sqB, sqC]
  apply wpK_val
  · rfl
  · intro w' hw'
    go_simp
    first | exact rfl | exact ⟨rfl, hw'⟩
  simp only [Act.put, sqA, sqB, sqC]
  apply wpK_val
  · rfl
  · intro w' hw'
    have hcell := (H1.out.below hw').blk.cell 1
    go_simp
    first | exact rfl | exact ⟨rfl, hw'⟩
  simp only [Act.put, sqA, sqB, sqC]
  apply wpK_val
  · rfl
  · intro w' hw'
    go_simp
    first | exact rfl | exact ⟨rfl, hw'⟩
  simp only [Act.put, sqA, sqB, sqC]
  apply kldA tSe
  · rfl
  · rfl
  · exact fun w' hw' => ((b1.out.below hw' b1.out.lt).head)
  simp only [Act.put, sqA, sqB, sqC]
  intro w2 hC2
  have H2 := hid (H1.out.below hC2)
  have B2 := hid (BEL.out.trans (hC2.mono BEL.out.size))
  have b2 := hid (b1.out.below hC2 b1.out.lt)
  clear H1 BEL b1 hC2 p0 p5
  go_wp2_with fail
  refine (put_any rs S i x w2 H2.out.seen).mono ?_
  rintro e w3 ⟨rfl, m3, t3⟩
  have H3 := hid (H2.out.setS t3 m3)
  have T3 := hid ((Turn.of_new (S := fun b => b = rs) B2.out).trans t3 fun _ e => .inl e)
  have b3 := hid (b2.out.turn t3 (by omega))
  have HBX := hid (show ¬ (Value.slice A log.length c).ownBlock = some w.heap.size from fun e => by
    obtain ⟨cur, hc⟩ := H3.out.lg.obj e
    have h2 : w3.heap[w.heap.size]? = some (.cells _ 37 (0, 0)) := b3.out
    rw [h2] at hc
    simp at hc)
  clear H2 B2 b2 m3 t3
  go_upto_region 5 with fail
  refine wp_region_c (S := yS [some (.pointer (some ⟨g, 0, none⟩)), some (.pointer (some ⟨g, 0, none⟩)), some (.pointer (some ⟨g, 0, none⟩)), some (.pointer (some ⟨g, 3, none⟩)), some (.slice A log.length c), some (.int .i64 i), some (.agg (ar 64 x)), some (.agg (atL ⟨i, x⟩).toArray), none, none, some (.pointer (some ⟨g, 0, none⟩)), some (.pointer (some ⟨g, 3, none⟩))]
      [(8, kSl 1), (9, kSl (log.length + 1))]) (C := fun d vs w' => ApC 146 65 atL w3 (.slice A log.length c) log (⟨i, x⟩ : Pt) (d 8) (d 9) (vs 8) (vs 9) w') 12 (by kernel_rfl) (by kernel_rfl) (by kernel_rfl) _
    (yS_ok _ fun y hy => by simp only [List.mem_cons, List.not_mem_nil, or_false] at hy; rcases hy with rfl | rfl <;> exact kSl_ok _) ⟨Turn.drew _, fun _ => (Below.refl _ _).drew, (fun e => by cases e), (fun e => by cases e)⟩ fun vs => ?_
  simp only [List.take_succ_cons, List.take_zero, List.drop_succ_cons, List.drop_zero]
  refine ⟨.inl ⟨rfl, fun dd w' hd hnx hw hC => ?_⟩, fun e => ?_⟩
  · go_simp
    first | exact ⟨rfl, hC⟩ | exact hC
  have e' : vs 0 = _ := e
  rw [e']
  clear e e'
  simp only [Act.put, sqA, sqB, sqC]
  refine ⟨.inl ⟨rfl, fun dd w' hd hnx hw hC => ?_⟩, fun e => ?_⟩
  · go_simp
    first | exact ⟨rfl, hC⟩ | exact hC
  have e' : vs 1 = _ := e
  rw [e']
  clear e e'
  simp only [Act.put, sqA, sqB, sqC]
  refine ⟨.inl ⟨rfl, fun dd w' hd hnx hw hC => ?_⟩, fun e => ?_⟩
  · go_simp
    first | exact ⟨rfl, hC⟩ | exact hC
  have e' : vs 2 = _ := e
  rw [e']
  clear e e'
  simp only [Act.put, sqA, sqB, sqC]
  refine ⟨.inl ⟨rfl, fun dd w' hd hnx hw hC => ?_⟩, fun e => ?_⟩
  · go_simp
    first | exact ⟨rfl, hC⟩ | exact hC
  have e' : vs 3 = _ := e
  rw [e']
  clear e e'
  simp only [Act.put, sqA, sqB, sqC]
  refine ⟨.inl ⟨rfl, fun dd w' hd hnx hw hC => ?_⟩, fun e => ?_⟩
  · have h1 : w'.cell? ⟨g, 3, none⟩ = some (.slice A log.length c) := (H3.out.blk.turn hC.t H3.out.l_g).cell 3
    go_simp
    first | exact ⟨rfl, hC⟩ | exact hC
  have e' : vs 4 = _ := e
  rw [e']
  clear e e'
  simp only [Act.put, sqA, sqB, sqC]
  refine ⟨.inl ⟨rfl, fun dd w' hd hnx hw hC => ?_⟩, fun e => ?_⟩
  · go_simp
    first | exact ⟨rfl, hC⟩ | exact hC
  have e' : vs 5 = _ := e
  rw [e']
  clear e e'
  simp only [Act.put, sqA, sqB, sqC]
  refine ⟨.inl ⟨rfl, fun dd w' hd hnx hw hC => ?_⟩, fun e => ?_⟩
  · exact gE_ldA tSe rfl ((b3.out.turn hC.t (HBX.out)).head) ⟨rfl, hC⟩
  have e' : vs 6 = _ := e
  rw [e']
  clear e e'
  simp only [Act.put, sqA, sqB, sqC]
  refine ⟨.inl ⟨rfl, fun dd w' hd hnx hw hC => ?_⟩, fun e => ?_⟩
  · exact gE_wr rfl rfl ⟨rfl, hC⟩
  have e' : vs 7 = _ := e
  rw [e']
  clear e e'
  simp only [Act.put, sqA, sqB, sqC]
  refine ⟨.inl ⟨rfl, fun dd w' hd hnx hw hC => ?_⟩, fun e => ?_⟩
  · have h9 : dd 9 = false := hnx 9 (by kernel_rfl)
    have ha := (Below.refl w'.heap.size w').alloc (Nat.le_refl _) (.cells (atL ⟨i, x⟩).toArray 146)
    have hbl := hC.b h9
    exact gE_lit1 (x := (⟨i, x⟩ : Pt)) eltWr undWr (by omega) rfl rfl ⟨⟨_, _, rfl⟩, hC.t.trans (Turn.of_new (S := fun _ => False) ha) (fun _ e => e.elim), (fun _ => hbl.trans (ha.mono hbl.size)), (fun _ _ => ⟨_, _, rfl, sli_lit1 eltWr (⟨i, x⟩ : Pt) w' hbl.size⟩), fun e => by
      have e' : dd 9 = true := e
      rw [h9] at e'; cases e'⟩
  obtain ⟨A8, c8, e'⟩ : ∃ (A : Option Addr) (c : Nat), vs 8 = .slice A 1 c := e
  rw [e']
  have E8 := hid e'
  clear e'
  simp only [Act.put, sqA, sqB, sqC]
  refine ⟨.inl ⟨rfl, fun dd w' hd hnx hw hC => ?_⟩, fun e => ?_⟩
  · have h8 : dd 8 = true := hw 8 (by kernel_rfl)
    have hbl := hC.b hd
    obtain ⟨A', c', f, sl⟩ := hC.lit h8 hd
    rw [E8.out] at f
    cases f
    refine gE_appW eltWr undWr (B := 0) (v := .slice A log.length c) (l := log) (m := [(⟨i, x⟩ : Pt)]) rfl rfl (H3.out.lg.below hbl (Nat.le_refl _)) sl (by omega) (by omega) (Nat.zero_le _) fun v' w4 o4 g4 wh => ?_
    obtain ⟨A4, c4, rfl, _⟩ := o4.sli atL_len
    refine ⟨⟨A4, c4, by rw [List.length_append]; rfl⟩, ?_⟩
    exact ⟨(Turn.of_new (S := fun b => (Value.slice A log.length c).ownBlock = some b) hbl).trans (Turn.of_grown (S := fun b => (Value.slice A log.length c).ownBlock = some b) g4 fun b e => e) (fun b e => .inl e), (fun e => by cases e), (fun _ e => by cases e), fun _ => ⟨o4, fun b e => by
      have e' : (Value.slice A4 (log ++ [(⟨i, x⟩ : Pt)]).length c4).ownBlock = some b := e
      rcases wh with e2 | e2
      · exact .inl (e2.symm.trans e')
      · rw [e2] at e'; cases e'; exact .inr hbl.size⟩⟩
  obtain ⟨A9, c9, e'⟩ : ∃ (A : Option Addr) (c : Nat), vs 9 = .slice A (log.length + 1) c := e
  rw [e']
  have E9 := hid e'
  clear e'
  simp only [Act.put, sqA, sqB, sqC]
  refine ⟨.inl ⟨rfl, fun dd w' hd hnx hw hC => ?_⟩, fun e => ?_⟩
  · go_simp
    first | exact ⟨rfl, hC⟩ | exact hC
  have e' : vs 10 = _ := e
  rw [e']
  clear e e'
  simp only [Act.put, sqA, sqB, sqC]
  refine ⟨.inl ⟨rfl, fun dd w' hd hnx hw hC => ?_⟩, fun e => ?_⟩
  · go_simp
    first | exact ⟨rfl, hC⟩ | exact hC
  have e' : vs 11 = _ := e
  rw [e']
  clear e e'
  simp only [Act.put, sqA, sqB, sqC]
  intro dd w4 hall hC
  obtain ⟨o4, wh⟩ := hC.own (hall 9 (by omega))
  rw [E9.out] at o4 wh
  have hfin := hid (show Mm (w4.setCell ⟨g, 3, none⟩ (.slice A9 (log.length + 1) c9)) g rs rd (.slice A9 (log.length + 1) c9) vm ms n (upd S ⟨i, x⟩) D (log ++ [⟨i, x⟩]) marks false h from H3.out.setL hC.t o4)
  have hT := hid (show Turn (mSet g rs rd (.slice A log.length c) vm) w (w4.setCell ⟨g, 3, none⟩ (.slice A9 (log.length + 1) c9)) from
    ((T3.out.mono (T := mSet g rs rd (.slice A log.length c) vm) fun b e => .inr (.inl e)).trans hC.t fun b e => .inl (.inr (.inr (.inr (.inl e))))).trans (Turn.setCell (S := fun b => b = g) w4 ⟨g, 3, none⟩ _ rfl) fun b e => .inl (.inl e))
  have hsz := T3.out.size
  have W := hid wh
  have bb := H3.out.blk.turn hC.t H3.out.l_g
  have p3 : w4.cell? ⟨g, 3, none⟩ = some (.slice A log.length c) := bb.cell 3
  have fz := bb.frozen 3
  clear H3 T3 b3 hC o4 wh bb HBX hall E8 E9
  go_wp2_with fail
  go_ret
  exact ⟨rfl, _, hfin.out, fun b e => (W.out b e).imp id fun e => Nat.le_trans hsz e, hT.out⟩
set_option maxHeartbeats 400000 in
theorem mark2_full (H : Mm w g rs rd vl vm ms n S D log marks f h) (hl : marks.length = 64) :
    Calls Tryz.prog 160 #[at' g] w fun e w' => e = .returned (.tuple #[.int .i64 0, .int .i64 7]) ∧ w = w' := by
  have p0 : w.cell? ⟨g, 0, none⟩ = some (.int .i64 n) := H.blk.cell 0
  obtain ⟨A, c, e, _⟩ := H.mr.sli eltIm.len
  rw [List.length_map, H.len, hl] at e
  have p4 : w.cell? ⟨g, 4, none⟩ = some (.slice A 64 c) := by rw [← e]; exact H.blk.cell 4
  have hn := hid H.pos
  unfold at'
  clear H e
  go_enter Tryz.func160, Tryz.ntmps160
  go_wp2_with fail
  refine (made_any g n hn.out w p0).mono ?_
  rintro e w' ⟨rfl, rfl⟩
  go_wp2_with fail
  go_ret2
  exact ⟨rfl, rfl⟩
set_option maxHeartbeats 1000000 in
set_option maxRecDepth 100000 in
theorem mark2_any (H : Mm w g rs rd vl vm ms n S D log marks f h) (hl : marks.length < 64) :
    Calls Tryz.prog 160 #[at' g] w fun e w' => e = .returned (.tuple #[.int .i64 (marks.length : Nat), .int .i64 0]) ∧ ∃ vm' r, Mm w' g rs rd vl vm' (ms ++ [r]) n S D log (marks ++ [S]) f h ∧
      (∀ b, vm'.ownBlock = some b → vm.ownBlock = some b ∨ w.heap.size ≤ b) ∧ w.heap.size ≤ r ∧ Turn (mSet g rs rd vl vm) w w' := by
  have p0 : w.cell? ⟨g, 0, none⟩ = some (.int .i64 n) := H.blk.cell 0
  obtain ⟨A, c, rfl, _⟩ := H.mr.sli eltIm.len
  have hml : (ms.map some).length = marks.length := by rw [List.length_map, H.len]
  have HML := hid hml
  have p4 : w.cell? ⟨g, 4, none⟩ = some (.slice A marks.length c) := by rw [← hml]; exact H.blk.cell 4
  have hn := hid H.pos
  have HH := hid H
  rw [hml]
  unfold at'
  have t1 : ((marks.length : Int) == 64) = false := by simp; omega
  have t2 : decide ((marks.length : Int) = 64) = false := by simp; omega
  clear H hml
  go_enter Tryz.func160, Tryz.ntmps160
  go_wp2_with fail
  refine (made_any g n hn.out w p0).mono ?_
  rintro e w' ⟨rfl, rfl⟩
  go_upto_region 6 with fail
  have HV := hid (show (Value.slice A (ms.map some).length c) = .slice A marks.length c by rw [HML.out])
  refine wp_region_c (S := yS [some (.pointer (some ⟨g, 0, none⟩)), some (.pointer (some ⟨g, 0, none⟩)), some (.pointer (some ⟨g, 0, none⟩)), some (.pointer (some ⟨g, 4, none⟩)), some (.slice A marks.length c), some (.pointer (some ⟨g, 0, none⟩)), some (.pointer (some ⟨g, 0, none⟩)), some (.pointer (some ⟨g, 1, none⟩)), some (.map (some rs)), none, none, none, some (.pointer (some ⟨g, 0, none⟩)), some (.pointer (some ⟨g, 4, none⟩))]
      [(9, kMp), (10, kSl 1), (11, kSl (marks.length + 1))]) (C := fun d vs w' => MkC w (.slice A marks.length c) (ms.map some) S (d 9) (d 10) (d 11) (vs 9) (vs 10) (vs 11) w') 14 (by kernel_rfl) (by kernel_rfl) (by kernel_rfl) _
    (yS_ok _ fun y hy => by simp only [List.mem_cons, List.not_mem_nil, or_false] at hy; rcases hy with rfl | rfl | rfl <;> first | exact kSl_ok _ | exact kMp_ok)
    ⟨Turn.drew _, fun _ => (Below.refl _ _).drew, (fun e => by cases e), (fun e => by cases e), (fun e => by cases e), (fun e => by cases e), (fun e => by cases e)⟩ fun vs => ?_
  simp only [List.take_succ_cons, List.take_zero, List.drop_succ_cons, List.drop_zero]
  have BK := hid (show ∀ w', Turn (fun b => (Value.slice A marks.length c).ownBlock = some b) w w' → Blk w' g 123 (mbC7 n rs rd vl (.slice A marks.length c) f h) from fun w' ht => by
    have := HH.out.blk.turn ht (by rw [← HV.out]; exact HH.out.m_g)
    rw [HV.out] at this
    exact this)
  refine ⟨.inl ⟨rfl, fun dd w' hd hnx hw hC => ?_⟩, fun e => ?_⟩
  · go_simp
    first | exact ⟨rfl, hC⟩ | exact hC
  have e' : vs 0 = _ := e
  rw [e']
  clear e e'
  simp only [Act.put, sqA, sqB, sqC]
  refine ⟨.inl ⟨rfl, fun dd w' hd hnx hw hC => ?_⟩, fun e => ?_⟩
  · go_simp
    first | exact ⟨rfl, hC⟩ | exact hC
  have e' : vs 1 = _ := e
  rw [e']
  clear e e'
  simp only [Act.put, sqA, sqB, sqC]
  refine ⟨.inl ⟨rfl, fun dd w' hd hnx hw hC => ?_⟩, fun e => ?_⟩
  · go_simp
    first | exact ⟨rfl, hC⟩ | exact hC
  have e' : vs 2 = _ := e
  rw [e']
  clear e e'
  simp only [Act.put, sqA, sqB, sqC]
  refine ⟨.inl ⟨rfl, fun dd w' hd hnx hw hC => ?_⟩, fun e => ?_⟩
  · go_simp
    first | exact ⟨rfl, hC⟩ | exact hC
  have e' : vs 3 = _ := e
  rw [e']
  clear e e'
  simp only [Act.put, sqA, sqB, sqC]
  refine ⟨.inl ⟨rfl, fun dd w' hd hnx hw hC => ?_⟩, fun e => ?_⟩
  · have h1 : w'.cell? ⟨g, 4, none⟩ = some (.slice A marks.length c) := (BK.out _ hC.t).cell 4
    go_simp
    first | exact ⟨rfl, hC⟩ | exact hC
  have e' : vs 4 = _ := e
  rw [e']
  clear e e'
  simp only [Act.put, sqA, sqB, sqC]
  refine ⟨.inl ⟨rfl, fun dd w' hd hnx hw hC => ?_⟩, fun e => ?_⟩
  · go_simp
    first | exact ⟨rfl, hC⟩ | exact hC
  have e' : vs 5 = _ := e
  rw [e']
  clear e e'
  simp only [Act.put, sqA, sqB, sqC]
  refine ⟨.inl ⟨rfl, fun dd w' hd hnx hw hC => ?_⟩, fun e => ?_⟩
  · go_simp
    first | exact ⟨rfl, hC⟩ | exact hC
  have e' : vs 6 = _ := e
  rw [e']
  clear e e'
  simp only [Act.put, sqA, sqB, sqC]
  refine ⟨.inl ⟨rfl, fun dd w' hd hnx hw hC => ?_⟩, fun e => ?_⟩
  · go_simp
    first | exact ⟨rfl, hC⟩ | exact hC
  have e' : vs 7 = _ := e
  rw [e']
  clear e e'
  simp only [Act.put, sqA, sqB, sqC]
  refine ⟨.inl ⟨rfl, fun dd w' hd hnx hw hC => ?_⟩, fun e => ?_⟩
  · have h1 : w'.cell? ⟨g, 1, none⟩ = some (.map (some rs)) := (BK.out _ hC.t).cell 1
    go_simp
    first | exact ⟨rfl, hC⟩ | exact hC
  have e' : vs 8 = _ := e
  rw [e']
  clear e e'
  simp only [Act.put, sqA, sqB, sqC]
  refine ⟨.inl ⟨rfl, fun dd w' hd hnx hw hC => ?_⟩, fun e => ?_⟩
  · have h10 : dd 10 = false := by
      cases e : dd 10 with
      | false => rfl
      | true => have := hC.c2 e; rw [hd] at this; cases this
    have h11 : dd 11 = false := by
      cases e : dd 11 with
      | false => rfl
      | true => have := hC.c1 e; rw [h10] at this; cases this
    have hbl := hC.b h11
    go_simp
    refine (clone_any rs S w' (HH.out.seen.below hbl)).mono ?_
    rintro e w4 ⟨rfl, m4, h4, _⟩
    exact ⟨_, rfl, ⟨_, rfl⟩, hC.t.trans (Turn.of_new (S := fun _ => False) h4) (fun _ e => e.elim), (fun _ => hbl.trans (h4.mono hbl.size)), hC.c1, (fun _ => rfl), (fun _ => ⟨_, rfl, m4, hbl.size⟩), (fun e => by
      have e' : dd 10 = true := e
      rw [h10] at e'; cases e'), fun e => by
      have e' : dd 11 = true := e
      rw [h11] at e'; cases e'⟩
  obtain ⟨r9, e'⟩ : ∃ r : Nat, vs 9 = .map (some r) := e
  rw [e']
  have E9 := hid e'
  clear e'
  simp only [Act.put, sqA, sqB, sqC]
  refine ⟨.inl ⟨rfl, fun dd w' hd hnx hw hC => ?_⟩, fun e => ?_⟩
  · have h9 : dd 9 = true := hw 9 (by kernel_rfl)
    have h11 : dd 11 = false := by
      cases e : dd 11 with
      | false => rfl
      | true => have := hC.c1 e; rw [hd] at this; cases this
    have hbl := hC.b h11
    have ha := (Below.refl w'.heap.size w').alloc (Nat.le_refl _) (.cells (imE (some r9)).toArray 119)
    refine gE_lit1 (x := some r9) (v := .map (some r9)) eltIm undIm (by omega) rfl rfl ⟨⟨_, _, rfl⟩, hC.t.trans (Turn.of_new (S := fun _ => False) ha) (fun _ e => e.elim), (fun _ => hbl.trans (ha.mono hbl.size)), (fun _ => rfl), (fun _ => h9), (fun _ => ?_), (fun _ _ => ⟨_, _, r9, E9.out, rfl, sli_lit1 eltIm (some r9) w' hbl.size⟩), fun e => by
      have e' : dd 11 = true := e
      rw [h11] at e'; cases e'⟩
    obtain ⟨r, e1, e2, e3⟩ := hC.im h9
    exact ⟨r, e1, e2.below ha, e3⟩
  obtain ⟨A10, c10, e'⟩ : ∃ (A : Option Addr) (c : Nat), vs 10 = .slice A 1 c := e
  rw [e']
  have E10 := hid e'
  clear e'
  simp only [Act.put, sqA, sqB, sqC]
  refine ⟨.inl ⟨rfl, fun dd w' hd hnx hw hC => ?_⟩, fun e => ?_⟩
  · have h10 : dd 10 = true := hw 10 (by kernel_rfl)
    have hbl := hC.b hd
    obtain ⟨A', c', r, e1, f1, sl⟩ := hC.lit h10 hd
    rw [E10.out] at f1
    cases f1
    have hvo : OwnM w' 0 (.slice A marks.length c) (ms.map some) := by rw [← HV.out]; exact HH.out.mr.below hbl (Nat.le_refl _)
    have hlen := HML.out
    refine gE_appW eltIm undIm (B := 0) (v := .slice A marks.length c) (l := ms.map some) (m := [some r]) rfl rfl hvo sl (by omega) (by omega) (Nat.zero_le _) fun v' w4 o4 g4 wh => ?_
    obtain ⟨A4, c4, rfl, _⟩ := o4.sli eltIm.len
    have tg := Turn.of_grown (S := fun b => (Value.slice A marks.length c).ownBlock = some b) g4 fun b e => e
    refine ⟨⟨A4, c4, by rw [List.length_append, hlen]; rfl⟩, (hC.t.trans tg (fun b e => .inl e)), (fun e => by cases e), (fun _ => h10), hC.c2, (fun e => ?_), (fun _ e => by cases e), fun _ => ⟨r, e1, o4, fun b e => ?_⟩⟩
    · obtain ⟨r2, e2, e3, e4⟩ := hC.im e
      refine ⟨r2, e2, e3.turn tg fun x => ?_, e4⟩
      have := (hvo.own _ x).2
      obtain ⟨cur, hc⟩ := hvo.obj x
      exact map_ne e3 hc rfl
    · have e' : (Value.slice A4 (ms.map some ++ [some r]).length c4).ownBlock = some b := e
      rcases wh with e2 | e2
      · exact .inl (e2.symm.trans e')
      · rw [e2] at e'; cases e'; exact .inr hbl.size
  obtain ⟨A11, c11, e'⟩ : ∃ (A : Option Addr) (c : Nat), vs 11 = .slice A (marks.length + 1) c := e
  rw [e']
  have E11 := hid e'
  clear e'
  simp only [Act.put, sqA, sqB, sqC]
  refine ⟨.inl ⟨rfl, fun dd w' hd hnx hw hC => ?_⟩, fun e => ?_⟩
  · go_simp
    first | exact ⟨rfl, hC⟩ | exact hC
  have e' : vs 12 = _ := e
  rw [e']
  clear e e'
  simp only [Act.put, sqA, sqB, sqC]
  refine ⟨.inl ⟨rfl, fun dd w' hd hnx hw hC => ?_⟩, fun e => ?_⟩
  · go_simp
    first | exact ⟨rfl, hC⟩ | exact hC
  have e' : vs 13 = _ := e
  rw [e']
  clear e e'
  simp only [Act.put, sqA, sqB, sqC]
  intro dd w4 hall hC
  obtain ⟨r, e1, o4, wh⟩ := hC.own (hall 11 (by omega))
  obtain ⟨r', e2, m4, hr4⟩ := hC.im (hall 9 (by omega))
  rw [E9.out] at e1 e2
  cases e1
  cases e2
  rw [E11.out] at o4 wh
  have ht' : Turn (fun b => (Value.slice A (ms.map some).length c).ownBlock = some b) w w4 := by rw [HV.out]; exact hC.t
  have hfin := hid (show Mm (w4.setCell ⟨g, 4, none⟩ (.slice A11 (marks.length + 1) c11)) g rs rd vl (.slice A11 (marks.length + 1) c11) (ms ++ [r9]) n S D log (marks ++ [S]) f h from
    HH.out.setM ht' (by rw [List.map_append]; exact o4) (by rw [List.length_append, List.length_append, HH.out.len]; rfl) (fun i m F h1 h2 => by
      by_cases hi : i < ms.length
      · rw [List.getElem?_append_left hi] at h1
        rw [List.getElem?_append_left (by rw [← HH.out.len]; exact hi)] at h2
        exact (HH.out.im i m F h1 h2).turn ht' fun e => by obtain ⟨cur, hc⟩ := HH.out.mr.obj e; exact map_ne (HH.out.im i m F h1 h2) hc rfl
      · have hi2 : i = ms.length := by
          have := (List.getElem?_eq_some_iff.1 h1).1
          rw [List.length_append, List.length_cons, List.length_nil] at this
          omega
        subst hi2
        rw [List.getElem?_append_right (Nat.le_refl _), Nat.sub_self, List.getElem?_cons_zero] at h1
        rw [HH.out.len, List.getElem?_append_right (Nat.le_refl _), Nat.sub_self, List.getElem?_cons_zero] at h2
        cases h1
        cases h2
        exact m4) (fun m hm => by
      rcases List.mem_append.1 hm with hm | hm
      · exact HH.out.out m hm
      · rw [List.mem_singleton] at hm
        subst hm
        have := HH.out.seen.lt
        have := HH.out.dur.lt
        exact ⟨by omega, by omega⟩))
  have hT := hid (show Turn (mSet g rs rd vl (.slice A marks.length c)) w (w4.setCell ⟨g, 4, none⟩ (.slice A11 (marks.length + 1) c11)) from
    (hC.t.mono (T := mSet g rs rd vl (.slice A marks.length c)) fun b e => .inr (.inr (.inr (.inr e)))).trans (Turn.setCell (S := fun b => b = g) w4 ⟨g, 4, none⟩ _ rfl) fun b e => .inl (.inl e))
  have W := hid wh
  have bb := BK.out _ hC.t
  have p4 : w4.cell? ⟨g, 4, none⟩ = some (.slice A marks.length c) := bb.cell 4
  have fz := bb.frozen 4
  clear HH hC o4 wh bb BK hall E9 E10 E11 ht' HV HML m4
  go_wp2_with fail
  go_ret2
  exact ⟨rfl, _, r9, hfin.out, W.out, hr4, hT.out⟩
end
end MbO
end Go.Proofs.YtklmjdhhnnanoaaGreatDoor
set_option maxRecDepth 100000
namespace Go.Proofs.YtklmjdhhnnanoaaGreatDoor
open Go.ChangeShapes Go.WideShapes Go.ChangeAt Go.RowKit
attribute [local go_sem] Gives GivesE
namespace MbO
open MbM MbP
theorem elemWr : Tryz.prog.elem 120 = 146 := by kernel_rfl
abbrev thereF (h : Nat) : Value := .func (.func 62) #[] #[.pointer (some ⟨h, 0, none⟩)]
set_option maxHeartbeats 400000 in
set_option maxRecDepth 100000 in
theorem index_any (A : Option Addr) (l : List Pt) (n c h : Nat) (i : Int) (S : Nat → Prop) (w : World) (hA : Sli 65 atL S w A l n c) (hb : w.cell? ⟨h, 0, none⟩ = some (.int .i64 i)) (hn : n ≤ 220000) :
    Calls Tryz.prog 92 #[.slice A n c, thereF h] w fun e w' => ∃ j : Nat, (∀ q p, q < j → l[q]? = some p → p.i ≠ i) ∧ (∃ r : Int, e = .returned (.int .i64 r) ∧ ((j < n ∧ r = j ∧ ∃ p, l[j]? = some p ∧ p.i = i) ∨ (n ≤ j ∧ r = -1))) ∧ Below w.heap.size w w' := by
  have HA := hid hA
  have HB := hid hb
  have hhl : h < w.heap.size := World.block_lt_of_cell? w ⟨h, 0, none⟩ hb
  unfold thereF
  clear hA hb
  go_enter Tryz.func92, Tryz.ntmps92
  go_wp2_with fail
  go_loopw [8] (fun u wr => ∃ k : Nat, u = .int .i64 k ∧ k ≤ n ∧ Hid (∀ q p, q < k → l[q]? = some p → p.i ≠ i) ∧ Hid (Below w.heap.size w wr)) (fun u _ => n - (intOf u).toNat)
  case atStart => exact ⟨0, rfl, Nat.zero_le _, hid fun q p hq => absurd hq (Nat.not_lt_zero _), hid (Below.refl _ _)⟩
  case round =>
    obtain ⟨k, rfl, hk, hM, hB⟩ := hrel
    by_cases hgo : k < n
    · have t1 : (k : Int) < (n : Int) := by omega
      obtain ⟨p, hp⟩ : ∃ p, l[k]? = some p := ⟨_, List.getElem?_eq_getElem (by rw [HA.out.len]; exact hgo)⟩
      obtain ⟨b, o, rfl, _, hbl, hr⟩ := HA.out.some hp
      have HR := hid (show wr.rangeAt b (o + k * 65) (atL p) from fun j v hj => (hB.out.cell (p := ⟨b, o + k * 65 + j, none⟩) hbl).trans (hr j v hj))
      have HBr := hid ((hB.out.cell (p := ⟨h, 0, none⟩) hhl).trans HB.out)
      have HP := hid hp
      clear hr hp
      go_wp2_with ((with_reducible apply ldR (cs := (atL p).toArray) (tWr p)); rfl; exact HR.out)
      refine (there_any h i p wr HBr.out).mono ?_
      rintro e w2 ⟨rfl, h2⟩
      have B2 := hid (hB.out.trans (h2.mono hB.out.size))
      clear hB HR HBr h2
      by_cases he : p.i = i
      · rw [show decide (p.i = i) = true by simp [he]]
        go_wp2_with fail
        go_ret
        exact ⟨k, hM.out, ⟨k, rfl, .inl ⟨hgo, rfl, p, HP.out, he⟩⟩, B2.out⟩
      · rw [show decide (p.i = i) = false by simp [he]]
        go_wp2_with fail
        go_roundw
        case rel =>
          refine ⟨k + 1, by go_num, by omega, hid fun q x hq hx => ?_, B2⟩
          by_cases e : q = k
          · subst e
            rw [HP.out] at hx
            cases hx
            exact he
          · exact hM.out q x (by omega) hx
        case measure => simp [intOf] <;> omega
    · have t1 : ¬ k < n := hgo
      go_wp2_with fail
      go_ret
      exact ⟨k, hM.out, ⟨_, rfl, .inr ⟨by omega, rfl⟩⟩, hB.out⟩
structure Dl (w0 : World) (b cap : Nat) (l : List Pt) (i : Int) (j : Nat) (w : World) : Prop where
  blk : ∃ cur, w.heap[b]? = some (.cells cur 146 (0, 0)) ∧ cur.size = cap * 65
  don : ∀ (q : Nat) x, (oth (l.take j) i)[q]? = some x → w.rangeAt b (q * 65) (atL x)
  rem : ∀ (q : Nat) x, j ≤ q → l[q]? = some x → w.rangeAt b (q * 65) (atL x)
  t : Turn (fun k => k = b) w0 w
theorem Dl.turn {w0 w w' : World} {b cap : Nat} {l : List Pt} {i : Int} {j : Nat} (h : Dl w0 b cap l i j w) (hb : Below w.heap.size w w') (hbl : b < w0.heap.size) : Dl w0 b cap l i j w' := by
  have hlt : b < w.heap.size := Nat.lt_of_lt_of_le hbl h.t.size
  have ht := Turn.of_below hb
  obtain ⟨cur, h1, h2⟩ := h.blk
  exact ⟨⟨cur, (hb.block b hlt).trans h1, h2⟩, fun q x hx => ht.range (h.don q x hx) (by omega), fun q x hq hx => ht.range (h.rem q x hq hx) (by omega), h.t.trans (Turn.of_new (S := fun _ => False) hb) fun _ e => e.elim⟩
theorem oth_all {l : List Pt} {i : Int} : ∀ {m : Nat}, (∀ q p, q < m → l[q]? = some p → p.i ≠ i) → m ≤ l.length → oth (l.take m) i = l.take m
  | 0, _, _ => by rw [List.take_zero]; rfl
  | m + 1, h, hm => by
    rw [oth_step (p := l[m]) (List.getElem?_eq_getElem (by omega)), if_neg (h m _ (by omega) (List.getElem?_eq_getElem (by omega))), oth_all (fun q p hq => h q p (by omega)) (by omega), List.take_add_one, List.getElem?_eq_getElem (by omega)]
    rfl
set_option maxHeartbeats 1000000 in
set_option maxRecDepth 100000 in
theorem delete_any (v : Value) (l : List Pt) (i0 : Int) (hb : Nat) (w : World) (hO : OwnL w 0 v l) (hbox : w.cell? ⟨hb, 0, none⟩ = some (.int .i64 i0)) (hne : ∀ b, v.ownBlock = some b → b ≠ hb) (hlen : l.length ≤ 220000) :
    Calls Tryz.prog 61 #[v, thereF hb] w fun e w' => ∃ v', e = .returned v' ∧ OwnL w' 0 v' (oth l i0) ∧ v'.ownBlock = v.ownBlock ∧ Turn (fun b => v.ownBlock = some b) w w' := by
  obtain ⟨A, cap, rfl, sl⟩ := hO.sli atL_len
  have HO := hid hO
  have SL := hid sl
  have HB := hid hbox
  have HN := hid hne
  have hhl : hb < w.heap.size := World.block_lt_of_cell? w ⟨hb, 0, none⟩ hbox
  unfold thereF
  clear hO sl hbox hne
  go_enter Tryz.func61, Tryz.ntmps61
  go_wp2_with fail
  refine (index_any A l l.length cap hb i0 (fun b => 0 ≤ b) w SL.out HB.out hlen).mono ?_
  rintro e w1 ⟨j, hj, ⟨r, rfl, hr⟩, h1⟩
  rcases hr with ⟨hjn, rfl, p0, hp0, he0⟩ | ⟨hjn, rfl⟩
  · have t0 : ((j : Int) == -1) = false := by simp
    have t0' : decide ((j : Int) = -1) = false := by simp
    have HJ := hid hj
    rcases HO.out.2 with ⟨e0, h0⟩ | ⟨g, cp, cur, e0, _, hg, hnc, hcm, hcs, htk⟩
    · omega
    · cases e0
      have hgl : g < w.heap.size := Blk.lt (t := 146) (cs := cur) hg
      have hall : ∀ (q : Nat) x, l[q]? = some x → w.rangeAt g (q * 65) (atL x) := fun q x hx => by
        obtain ⟨b, o, e, _, _, hr⟩ := SL.out.some hx
        cases e
        rwa [Nat.zero_add] at hr
      have hfst : oth (l.take (j + 1)) i0 = l.take j := by rw [oth_step hp0, if_pos he0, List.append_nil, oth_all HJ.out (by omega)]
      have D0 := hid (show Dl w g cap l i0 (j + 1) w1 from Dl.turn ⟨⟨cur, hg, hcs⟩, (fun q x hx => by
        rw [hfst] at hx
        have hql : q < j := by have := (List.getElem?_eq_some_iff.1 hx).1; rw [List.length_take] at this; omega
        rw [List.getElem?_take_of_lt hql] at hx
        exact hall q x hx), (fun q x _ hx => hall q x hx), Turn.refl _ _⟩ h1 hgl)
      have hfl := hid (show (oth (l.take (j + 1)) i0).length = j by rw [hfst, List.length_take]; omega)
      have hgb := HN.out g rfl
      have hcap : l.length ≤ cap := hnc
      have HCM := hid hcm
      clear HO SL hj hg hcm hcs htk hall hfst h1 hp0
      go_wp2_with fail
      go_loopw [5, 6] (fun u v wr => ∃ (m x : Nat), u = .int .i64 m ∧ v = .int .i64 x ∧ m < x ∧ x ≤ l.length ∧ Hid ((oth (l.take x) i0).length = m) ∧ Hid (Dl w g cap l i0 x wr)) (fun _ v _ => l.length - (intOf v).toNat)
      case atStart => exact ⟨j, j + 1, rfl, by go_num, by omega, by omega, hfl, D0⟩
      case round =>
        clear D0 hfl
        obtain ⟨m, x, rfl, rfl, hmx, hxl, hF, hD⟩ := hrel
        by_cases hgo : x < l.length
        · have t1 : (x : Int) < (l.length : Int) := by omega
          obtain ⟨p, hp⟩ : ∃ p, l[x]? = some p := ⟨_, List.getElem?_eq_getElem hgo⟩
          have HR := hid (show wr.rangeAt g (x * 65) (atL p) by exact hD.out.rem x p (Nat.le_refl _) hp)
          have hst := oth_step hp i0
          have HP := hid hp
          clear hp
          go_upto_region 8 with (first
            | ((with_reducible apply ldR (cs := (atL p).toArray) (tWr p)); rfl; exact HR.out)
            | (with_reducible apply alZ zWr)
            | ((with_reducible apply stR (tWr p)); rfl; rfl; exact Blk.new _ _ _; exact atL_size _ _; exact at_one p))
          generalize hw2 : World.setRow _ _ _ = w2
          have b2 := hid (show Blk w2 wr.heap.size 146 (atL p).toArray by rw [← hw2]; exact (Blk.new wr _ _).setRow_same _)
          have h2 := hid (show Below wr.heap.size wr w2 by rw [← hw2]; exact below_setRow ((Below.refl _ _).alloc (Nat.le_refl _) _) (Nat.le_refl _) _)
          have D2 := hid (hD.out.turn h2.out hgl)
          have HB2 := hid ((D2.out.t.cell (p := ⟨hb, 0, none⟩) HB.out) fun e => hgb e.symm)
          have hgr := Nat.lt_of_lt_of_le hgl hD.out.t.size
          clear hw2 hD h2 HR
          go_wp2_with ((with_reducible apply ldR (cs := (atL p).toArray) (tWr p)); rfl; exact b2.out.whole)
          refine (there_any hb i0 p w2 HB2.out).mono ?_
          rintro e w3 ⟨rfl, h3⟩
          have D3 := hid (D2.out.turn h3 hgl)
          have b3 := hid (b2.out.below h3 b2.out.lt)
          clear D2 b2 HB2 h3
          by_cases he : p.i = i0
          · rw [if_pos he, List.append_nil] at hst
            rw [show decide (p.i = i0) = true by simp [he]]
            have HST := hid hst
            clear hst b3
            go_wp2_with fail
            go_roundw
            case rel =>
              refine ⟨m, x + 1, rfl, by go_num, by omega, by omega, hid (by rw [HST.out]; exact hF.out), hid ⟨D3.out.blk, (by rw [HST.out]; exact D3.out.don), (fun q y hq hy => D3.out.rem q y (by omega) hy), D3.out.t⟩⟩
            case measure => simp [intOf] <;> omega
          · rw [if_neg he] at hst
            rw [show decide (p.i = i0) = false by simp [he]]
            have HST := hid hst
            have hTH := hid (show w3.there g (m * 65) (atL p).toArray.size by
              obtain ⟨cur, h1, h2⟩ := D3.out.blk
              refine there_of h1 ?_
              rw [h2, List.size_toArray, atL_len]
              have := Nat.mul_le_mul_right 65 (show m + 1 ≤ cap by omega)
              omega)
            have hDn := hid (show Dl w g cap l i0 (x + 1) (w3.setCells g (m * 65) (atL p).toArray.toList) from {
              blk := cells_setCells _ _ _ D3.out.blk
              don := fun q y hy => by
                rw [HST.out] at hy
                by_cases hq : q < m
                · rw [List.getElem?_append_left (by rw [hF.out]; exact hq)] at hy
                  have h4 := D3.out.don q y hy
                  refine World.rangeAt_setCells_apart h4 _ _ _ (.inr (.inl ?_))
                  rw [atL_len]
                  have := Nat.mul_le_mul_right 65 (show q + 1 ≤ m from hq)
                  omega
                · have hq2 : q = m := by
                    have := (List.getElem?_eq_some_iff.1 hy).1
                    rw [List.length_append, hF.out, List.length_cons, List.length_nil] at this
                    omega
                  subst hq2
                  rw [List.getElem?_append_right (by rw [hF.out]; exact Nat.le_refl _), hF.out, Nat.sub_self, List.getElem?_cons_zero] at hy
                  cases hy
                  have := World.rangeAt_setCells_same w3 g (q * 65) (atL p).toArray.toList hTH.out
                  exact this
              rem := fun q y hq hy => by
                have h4 := D3.out.rem q y (by omega) hy
                refine World.rangeAt_setCells_apart h4 _ _ _ (.inr (.inr ?_))
                show m * 65 + (atL p).length ≤ q * 65
                rw [atL_len]
                have := Nat.mul_le_mul_right 65 (show m + 1 ≤ q by omega)
                omega
              t := D3.out.t.trans (turn_setCells _ _ _) fun b e => .inl e })
            clear D3 hst
            go_wp2_with (first | ((with_reducible apply ldR (cs := (atL p).toArray) (tWr p)); rfl; exact b3.out.whole) | ((with_reducible apply stRM (cs := (atL p).toArray) (tWr p)); rfl; rfl; exact hTH.out; exact at_one p))
            go_roundw
            case rel =>
              refine ⟨m + 1, x + 1, by go_num, by go_num, by omega, by omega, hid (by rw [HST.out, List.length_append, hF.out]; rfl), hDn⟩
            case measure => simp [intOf] <;> omega
        · have hxe : x = l.length := by omega
          subst hxe
          have t1 : ¬ l.length < l.length := by omega
          rw [List.take_length] at hF
          have HM := hid (show (oth l i0).length = m from hF.out)
          have hDD := hid hD.out
          have hmc : m < cap := by omega
          have hml : m ≤ l.length := by omega
          have hth := hid (show wr.there g (m * 65) ((l.length - m) * (atL ⟨0, zero⟩).toArray.size) by
            obtain ⟨cur, h1, h2⟩ := hDD.out.blk
            refine there_of h1 ?_
            rw [h2, List.size_toArray, atL_len, ← Nat.add_mul]
            exact Nat.mul_le_mul_right 65 (by omega))
          clear hD hF hgo hxl
          go_wp2_with (first
            | ((with_reducible apply wslF eltWr undWr elemWr); rfl; rfl; exact hml; exact hmc)
            | ((with_reducible apply wclr undWr zWr); (rw [List.size_toArray, atL_len]; omega); exact atL_ones _; rfl; exact hth.out; intro zs hzs; generalize hwz : World.setCells _ _ _ _ = wz)
            | ((with_reducible apply wslT eltWr undWr elemWr); rfl; rfl; exact hmc))
          go_ret
          refine ⟨_, rfl, ?_, rfl, ?_⟩
          · obtain ⟨cur, h1, h2⟩ := cells_setCells (g := g) zs (m * 65) wr hDD.out.blk
            rw [hwz] at h1
            have hown := own_of_ranges (l := oth l i0) atL_len (by omega) h1 h2 (by rw [HM.out]; omega) HCM.out fun q y hy => by
              have hq : q < m := by rw [← HM.out]; exact (List.getElem?_eq_some_iff.1 hy).1
              have hy' : (oth (l.take l.length) i0)[q]? = some y := by rw [List.take_length]; exact hy
              rw [← hwz]
              refine World.rangeAt_setCells_apart (hDD.out.don q y hy') _ _ _ (.inr (.inl ?_))
              rw [atL_len]
              have := Nat.mul_le_mul_right 65 (show q + 1 ≤ m from hq)
              omega
            rw [HM.out] at hown
            exact hown
          · have ht := (hDD.out.t.trans (turn_setCells zs (m * 65) wr) fun b e => .inl e)
            rw [hwz] at ht
            exact ht.mono fun b e => by rw [e]; rfl
  · have hfin := hid (show oth l i0 = l by
      have := oth_all (l := l) (i := i0) (m := l.length) (fun q p hq => hj q p (by omega)) (Nat.le_refl _)
      rwa [List.take_length] at this)
    have b1 := hid h1
    have o1 := hid (HO.out.below h1 (Nat.le_refl _))
    clear hj h1 HO SL
    go_wp2_with fail
    go_ret
    exact ⟨_, rfl, by rw [hfin.out]; exact o1.out, rfl, Turn.of_new b1.out⟩
section
variable {w w' : World} {g rs rd : Nat} {vl vm : Value} {ms : List Nat} {n : Int} {S D : Img} {log : List Pt} {marks : List Img} {f h : Bool}
theorem Mm.hurt (H : Mm w g rs rd vl vm ms n S D log marks f h) (h' : Bool) : Mm (w.setCell ⟨g, 6, none⟩ (.bool h')) g rs rd vl vm ms n S D log marks f h' :=
  H.flags f h' (Turn.setCell (S := fun b => b = g) w ⟨g, 6, none⟩ (.bool h') rfl) (H.blk.setCell_same 6 (.bool h'))
set_option maxHeartbeats 400000 in
theorem set2_bad (H : Mm w g rs rd vl vm ms n S D log marks f h) (i : Int) (hq : decide (0 ≤ i ∧ i < n) = false) (x : Nat → Nat) :
    Calls Tryz.prog 24 #[at' g, .int .i64 i, .agg (ar 64 x)] w fun e w' => e = .returned (.int .i64 2) ∧ Below w.heap.size w w' := by
  have HH := hid H
  have HQ := hid hq
  have hn := hid H.pos
  unfold at'
  clear H hq
  go_enter Tryz.func24, Tryz.ntmps24
  go_upto_region 1 with fail
  generalize hw1 : World.alloc (World.alloc w _) _ = w1
  have b0 := hid (show Blk w1 w.heap.size 3 #[.int .i64 i] by rw [← hw1]; exact (Blk.new _ _ _).alloc _)
  have BEL := hid (show Below w.heap.size w w1 by rw [← hw1]; exact ((Below.refl _ _).alloc (Nat.le_refl _) _).alloc (by simp) _)
  have H1 := hid (HH.out.below BEL.out)
  clear hw1 HH
  have p0 : w1.cell? ⟨g, 0, none⟩ = some (.int .i64 n) := H1.out.blk.cell 0
  have pi : w1.cell? ⟨w.heap.size, 0, none⟩ = some (.int .i64 i) := b0.out.cell 0
  go_wp2_with fail
  refine (find2_any g n hn.out i false HQ.out w1 p0).mono ?_
  rintro e w' ⟨rfl, rfl⟩
  go_wp2_with fail
  go_ret
  exact ⟨rfl, BEL.out⟩
set_option maxHeartbeats 1000000 in
set_option maxRecDepth 100000 in
theorem set2_any (H : Mm w g rs rd vl vm ms n S D log marks f h) (i : Int) (hq : decide (0 ≤ i ∧ i < n) = true) (x : Nat → Nat) (hlen : log.length ≤ 220000) :
    Calls Tryz.prog 24 #[at' g, .int .i64 i, .agg (ar 64 x)] w fun e w' => e = .returned (.int .i64 0) ∧ ∃ vl', Mm w' g rs rd vl' vm ms n (upd S ⟨i, x⟩) (upd D ⟨i, x⟩) (oth log i) marks f true ∧
      vl'.ownBlock = vl.ownBlock ∧ Turn (mSet g rs rd vl vm) w w' := by
  have HH := hid H
  have HQ := hid hq
  have hn := hid H.pos
  have hrs := H.seen.lt
  have hrd := H.dur.lt
  have hvl := hid H.lg.own
  unfold at'
  clear H hq
  go_enter Tryz.func24, Tryz.ntmps24
  go_upto_region 1 with fail
  generalize hw1 : World.alloc (World.alloc w _) _ = w1
  have b0 := hid (show Blk w1 w.heap.size 3 #[.int .i64 i] by rw [← hw1]; exact (Blk.new _ _ _).alloc _)
  have b1 := hid (show Blk w1 (w.heap.size + 1) 37 (ar 64 x) by rw [← hw1]; exact Blk.top rfl (by simp))
  have BEL := hid (show Below w.heap.size w w1 by rw [← hw1]; exact ((Below.refl _ _).alloc (Nat.le_refl _) _).alloc (by simp) _)
  have H1 := hid (HH.out.below BEL.out)
  clear hw1 HH
  have p0 : w1.cell? ⟨g, 0, none⟩ = some (.int .i64 n) := H1.out.blk.cell 0
  have pi : w1.cell? ⟨w.heap.size, 0, none⟩ = some (.int .i64 i) := b0.out.cell 0
  go_wp2_with fail
  refine (find2_any g n hn.out i true HQ.out w1 p0).mono ?_
  rintro e w' ⟨rfl, rfl⟩
  go_upto_region 4 with fail
  refine wp_region_tail (C := fun w' => Below w1.heap.size w1 w') 6 (by kernel_rfl) (by kernel_rfl) (by kernel_rfl) (Below.refl _ _).drew ?_
  apply wpK_val
  · rfl
  · intro w' hw'
    go_simp
    first | exact rfl | exact ⟨rfl, hw'⟩
  simp only [Act.put, sqA, sqB, sqC]
  apply wpK_val
  · rfl
  · intro w' hw'
    go_simp
    first | exact rfl | exact ⟨rfl, hw'⟩
  simp only [Act.put, sqA, sqB, sqC]
  apply wpK_val
  · rfl
  · intro w' hw'
    go_simp
    first | exact rfl | exact ⟨rfl, hw'⟩
  simp only [Act.put, sqA, sqB, sqC]
  apply wpK_val
  · rfl
  · intro w' hw'
    have hcell := (H1.out.below hw').blk.cell 1
    go_simp
    first | exact rfl | exact ⟨rfl, hw'⟩
  simp only [Act.put, sqA, sqB, sqC]
  apply wpK_val
  · rfl
  · intro w' hw'
    have hcell := (b0.out.below hw' b0.out.lt).cell 0
    go_simp
    first | exact rfl | exact ⟨rfl, hw'⟩
  simp only [Act.put, sqA, sqB, sqC]
  apply kldA tSe
  · rfl
  · rfl
  · exact fun w' hw' => ((b1.out.below hw' b1.out.lt).head)
  simp only [Act.put, sqA, sqB, sqC]
  intro w2 hC2
  have H2 := hid (H1.out.below hC2)
  have B2 := hid (BEL.out.trans (hC2.mono BEL.out.size))
  have c0 := hid (b0.out.below hC2 b0.out.lt)
  have c1 := hid (b1.out.below hC2 b1.out.lt)
  clear H1 BEL b0 b1 hC2 p0 pi
  go_wp2_with fail
  refine (put_any rs S i x w2 H2.out.seen).mono ?_
  rintro e w3 ⟨rfl, m3, t3⟩
  have H3 := hid (H2.out.setS t3 m3)
  have T3 := hid ((Turn.of_new (S := mSet g rs rd vl vm) B2.out).trans t3 fun _ e => .inl (.inr (.inl e)))
  have b0 := hid (c0.out.turn t3 (by omega))
  have b1 := hid (c1.out.turn t3 (by omega))
  clear H2 B2 c0 c1 m3 t3
  go_upto_region 5 with fail
  refine wp_region_tail (C := fun w' => Below w3.heap.size w3 w') 6 (by kernel_rfl) (by kernel_rfl) (by kernel_rfl) (Below.refl _ _).drew ?_
  apply wpK_val
  · rfl
  · intro w' hw'
    go_simp
    first | exact rfl | exact ⟨rfl, hw'⟩
  simp only [Act.put, sqA, sqB, sqC]
  apply wpK_val
  · rfl
  · intro w' hw'
    go_simp
    first | exact rfl | exact ⟨rfl, hw'⟩
  simp only [Act.put, sqA, sqB, sqC]
  apply wpK_val
  · rfl
  · intro w' hw'
    go_simp
    first | exact rfl | exact ⟨rfl, hw'⟩
  simp only [Act.put, sqA, sqB, sqC]
  apply wpK_val
  · rfl
  · intro w' hw'
    have hcell := (H3.out.below hw').blk.cell 2
    go_simp
    first | exact rfl | exact ⟨rfl, hw'⟩
  simp only [Act.put, sqA, sqB, sqC]
  apply wpK_val
  · rfl
  · intro w' hw'
    have hcell := (b0.out.below hw' b0.out.lt).cell 0
    go_simp
    first | exact rfl | exact ⟨rfl, hw'⟩
  simp only [Act.put, sqA, sqB, sqC]
  apply kldA tSe
  · rfl
  · rfl
  · exact fun w' hw' => ((b1.out.below hw' b1.out.lt).head)
  simp only [Act.put, sqA, sqB, sqC]
  intro w4 hC4
  have H4 := hid (H3.out.below hC4)
  have T4 := hid (T3.out.trans (Turn.of_new (S := fun _ => False) hC4) fun _ e => e.elim)
  have c0 := hid (b0.out.below hC4 b0.out.lt)
  clear H3 T3 b0 b1 hC4
  go_wp2_with fail
  refine (put_any rd D i x w4 H4.out.dur).mono ?_
  rintro e w5 ⟨rfl, m5, t5⟩
  have H5 := hid (H4.out.setD t5 m5)
  have T5 := hid (T4.out.trans t5 fun _ e => .inl (.inr (.inr (.inl e))))
  have b0 := hid (c0.out.turn t5 (by omega))
  have p3 : w5.cell? ⟨g, 3, none⟩ = some vl := H5.out.blk.cell 3
  clear H4 T4 c0 m5 t5
  go_wp2_with fail
  refine (delete_any vl log i w.heap.size w5 H5.out.lg (b0.out.cell 0) (fun b e => by have := (hvl.out b e).2; omega) hlen).mono ?_
  rintro e w6 ⟨vl', rfl, o6, hob, t6⟩
  obtain ⟨A6, c6, rfl, _⟩ := o6.sli atL_len
  have H7 := hid (H5.out.setL t6 o6)
  have T7 := hid ((T5.out.trans t6 fun b e => .inl (.inr (.inr (.inr (.inl e))))).trans (Turn.setCell (S := fun b => b = g) w6 ⟨g, 3, none⟩ (.slice A6 (oth log i).length c6) rfl) fun b e => .inl (.inl e))
  have bb := H5.out.blk.turn t6 H5.out.l_g
  have p3 : w6.cell? ⟨g, 3, none⟩ = some vl := bb.cell 3
  have fz := bb.frozen 3
  have HOB := hid hob
  clear H5 T5 b0 o6 t6 bb hob
  go_upto_region 7 with fail
  generalize World.setCell w6 _ _ = w7 at H7 T7 ⊢
  have p6 : w7.cell? ⟨g, 6, none⟩ = some (.bool h) := H7.out.blk.cell 6
  have fz := H7.out.blk.frozen 6
  have hfin := hid (And.intro (H7.out.hurt true) (T7.out.trans (Turn.setCell (S := fun b => b = g) w7 ⟨g, 6, none⟩ (.bool true) rfl) fun b e => .inl (.inl e)))
  clear H7 T7
  go_wp2_with fail
  go_ret
  exact ⟨rfl, _, hfin.out.1, HOB.out, hfin.out.2⟩
end
end MbO
end Go.Proofs.YtklmjdhhnnanoaaGreatDoor
set_option maxRecDepth 100000
namespace Go.Proofs.YtklmjdhhnnanoaaGreatDoor
open Go.ChangeShapes Go.WideShapes Go.ChangeAt Go.RowKit
attribute [local go_sem] Gives GivesE
namespace MbO
open MbM MbP
section
variable {w w' : World} {g rs rd : Nat} {vl vm : Value} {ms : List Nat} {n : Int} {S D : Img} {log : List Pt} {marks : List Img} {f h : Bool}
theorem Mm.clones {rs' rd' : Nat} {F F' : Img} (H : Mm w g rs rd vl vm ms n S D log marks f h) (ht : Turn (fun b => b = g) w w') (hb : Blk w' g 123 (mbC7 n rs' rd' vl vm f h)) (hs : MapB w' rs' F) (hd : MapB w' rd' F') (hne : rs' ≠ rd') (hr : w.heap.size ≤ rs') (hr' : w.heap.size ≤ rd') :
    Mm w' g rs' rd' vl vm ms n F F' log marks f h where
  blk := hb
  pos := H.pos
  seen := hs
  dur := hd
  lg := H.lg.turn ht fun b e e2 => H.l_g (by rw [e, e2])
  mr := H.mr.turn ht fun b e e2 => H.m_g (by rw [e, e2])
  len := H.len
  im i m F h1 h2 := (H.im i m F h1 h2).turn ht fun e => map_ne (H.im i m F h1 h2) H.blk e.symm
  ne := hne
  out m hm := by have := H.lt (.inr hm); exact ⟨by omega, by omega⟩
structure BkC (w0 : World) (g rs rd : Nat) (vl vm : Value) (n : Int) (f h : Bool) (F : Img) (d9 d17 d20 : Bool) (w' : World) : Prop where
  t : Turn (fun b => b = g) w0 w'
  b : d20 = false → Below w0.heap.size w0 w'
  c1 : d17 = true → d9 = true
  c2 : d20 = true → d17 = true
  s0 : d9 = false → w'.heap.size = w0.heap.size
  s1 : d9 = true → d17 = false → w'.heap.size = w0.heap.size + 1
  m1 : d9 = true → MapB w' w0.heap.size F
  m2 : d17 = true → MapB w' (w0.heap.size + 1) F
  blk : Blk w' g 123 (mbC7 n (if d20 then w0.heap.size else rs) rd vl vm f h)
theorem no_of {a b : Bool} (h : b = true → a = true) (ha : a = false) : b = false := by
  cases b with
  | false => rfl
  | true => rw [h rfl] at ha; cases ha
set_option maxHeartbeats 400000 in
theorem back2_bad (H : Mm w g rs rd vl vm ms n S D log marks f h) (i : Int) (hi : i < 0 ∨ (marks.length : Int) ≤ i) :
    Calls Tryz.prog 162 #[at' g, .int .i64 i] w fun e w' => e = .returned (.int .i64 2) ∧ w = w' := by
  have p0 : w.cell? ⟨g, 0, none⟩ = some (.int .i64 n) := H.blk.cell 0
  obtain ⟨A, c, e, _⟩ := H.mr.sli eltIm.len
  rw [List.length_map, H.len] at e
  have p4 : w.cell? ⟨g, 4, none⟩ = some (.slice A marks.length c) := by rw [← e]; exact H.blk.cell 4
  have hn := hid H.pos
  unfold at'
  clear H e
  by_cases h0 : i < 0
  · go_enter Tryz.func162, Tryz.ntmps162
    go_wp2_with fail
    refine (made_any g n hn.out w p0).mono ?_
    rintro e w' ⟨rfl, rfl⟩
    go_wp2_with fail
    go_ret
    exact ⟨rfl, rfl⟩
  · have t2 : (marks.length : Int) ≤ i := by omega
    go_enter Tryz.func162, Tryz.ntmps162
    go_wp2_with fail
    refine (made_any g n hn.out w p0).mono ?_
    rintro e w' ⟨rfl, rfl⟩
    go_wp2_with fail
    go_ret
    exact ⟨rfl, rfl⟩
set_option maxHeartbeats 1000000 in
set_option maxRecDepth 100000 in
theorem back2_any (H : Mm w g rs rd vl vm ms n S D log marks f h) (k : Nat) (F : Img) (hk : marks[k]? = some F) :
    Calls Tryz.prog 162 #[at' g, .int .i64 k] w fun e w' => e = .returned (.int .i64 0) ∧ ∃ rs' rd', Mm w' g rs' rd' (.slice none 0 0) vm ms n F F [] marks f true ∧
      w.heap.size ≤ rs' ∧ w.heap.size ≤ rd' ∧ Turn (fun b => b = g) w w' := by
  have p0 : w.cell? ⟨g, 0, none⟩ = some (.int .i64 n) := H.blk.cell 0
  obtain ⟨A, c, rfl, sl⟩ := H.mr.sli eltIm.len
  have hml : (ms.map some).length = marks.length := by rw [List.length_map, H.len]
  have hkl : k < marks.length := (List.getElem?_eq_some_iff.1 hk).1
  obtain ⟨m, hm⟩ : ∃ m, ms[k]? = some m := ⟨_, List.getElem?_eq_getElem (by rw [H.len]; exact hkl)⟩
  have hF := hid (H.im k m F hm hk)
  obtain ⟨b, o, rfl, _, hbl, hr⟩ := sl.some (i := k) (x := some m) (by rw [List.getElem?_map, hm]; rfl)
  have pk : w.cell? ⟨b, o + k * 1, none⟩ = some (.map (some m)) := hr 0 _ rfl
  rw [Nat.mul_one] at pk
  have HV := hid (show (Value.slice (some ⟨b, o, none⟩) (ms.map some).length c) = .slice (some ⟨b, o, none⟩) marks.length c by rw [hml])
  have p4 : w.cell? ⟨g, 4, none⟩ = some (.slice (some ⟨b, o, none⟩) marks.length c) := by rw [← hml]; exact H.blk.cell 4
  have hn := hid H.pos
  have HH := hid H
  unfold at'
  have t1 : (k : Int) < (marks.length : Int) := by omega
  clear H hml sl hr hm hk
  go_enter Tryz.func162, Tryz.ntmps162
  go_wp2_with fail
  refine (made_any g n hn.out w p0).mono ?_
  rintro e w' ⟨rfl, rfl⟩
  go_upto_region 5 with fail
  have hFm := hid (show ∀ w', Turn (fun b => b = g) w w' → MapB w' m F from fun w' ht => hF.out.turn ht fun e => map_ne hF.out HH.out.blk e.symm)
  have hbg : b ≠ g := fun e => HH.out.m_g (by rw [e]; rfl)
  have hgl := HH.out.blk.lt
  refine wp_region_c (S := yS [some (.pointer (some ⟨g, 0, none⟩)), some (.pointer (some ⟨g, 0, none⟩)), some (.pointer (some ⟨g, 0, none⟩)), some (.pointer (some ⟨g, 0, none⟩)), some (.pointer (some ⟨g, 4, none⟩)), some (.slice (some ⟨b, o, none⟩) marks.length c), some (.int .i64 k), some (.pointer (some ⟨b, o + k, none⟩)), some (.map (some m)), some (.map (some w.heap.size)),
      some (.pointer (some ⟨g, 0, none⟩)), some (.pointer (some ⟨g, 0, none⟩)), some (.pointer (some ⟨g, 4, none⟩)), some (.slice (some ⟨b, o, none⟩) marks.length c), some (.int .i64 k), some (.pointer (some ⟨b, o + k, none⟩)), some (.map (some m)), some (.map (some (w.heap.size + 1))), some (.pointer (some ⟨g, 0, none⟩)), some (.pointer (some ⟨g, 1, none⟩)), none] [])
    (C := fun d _ w' => BkC w g rs rd vl (.slice (some ⟨b, o, none⟩) marks.length c) n f h F (d 9) (d 17) (d 20) w') 21 (by kernel_rfl) (by kernel_rfl) (by kernel_rfl) _ (yS_ok _ fun y hy => by cases hy) ?_ fun vs => ?_
  · exact ⟨Turn.drew _, fun _ => (Below.refl _ _).drew, (fun e => by cases e), (fun e => by cases e), fun _ => rfl, (fun e => by cases e), (fun e => by cases e), (fun e => by cases e), by
      have := HH.out.blk.turn (Turn.drew (S := fun _ => False) w) id
      rw [HV.out] at this
      exact this⟩
  simp only [List.take_succ_cons, List.take_zero, List.drop_succ_cons, List.drop_zero]
  refine ⟨.inl ⟨rfl, fun dd w' hd hnx hw hC => ?_⟩, fun e => ?_⟩
  · go_simp
    first | exact ⟨rfl, hC⟩ | exact hC
  have e' : vs 0 = _ := e
  rw [e']
  clear e e'
  simp only [Act.put, sqA, sqB, sqC]
  refine ⟨.inl ⟨rfl, fun dd w' hd hnx hw hC => ?_⟩, fun e => ?_⟩
  · go_simp
    first | exact ⟨rfl, hC⟩ | exact hC
  have e' : vs 1 = _ := e
  rw [e']
  clear e e'
  simp only [Act.put, sqA, sqB, sqC]
  refine ⟨.inl ⟨rfl, fun dd w' hd hnx hw hC => ?_⟩, fun e => ?_⟩
  · go_simp
    first | exact ⟨rfl, hC⟩ | exact hC
  have e' : vs 2 = _ := e
  rw [e']
  clear e e'
  simp only [Act.put, sqA, sqB, sqC]
  refine ⟨.inl ⟨rfl, fun dd w' hd hnx hw hC => ?_⟩, fun e => ?_⟩
  · go_simp
    first | exact ⟨rfl, hC⟩ | exact hC
  have e' : vs 3 = _ := e
  rw [e']
  clear e e'
  simp only [Act.put, sqA, sqB, sqC]
  refine ⟨.inl ⟨rfl, fun dd w' hd hnx hw hC => ?_⟩, fun e => ?_⟩
  · go_simp
    first | exact ⟨rfl, hC⟩ | exact hC
  have e' : vs 4 = _ := e
  rw [e']
  clear e e'
  simp only [Act.put, sqA, sqB, sqC]
  refine ⟨.inl ⟨rfl, fun dd w' hd hnx hw hC => ?_⟩, fun e => ?_⟩
  · have h1 : w'.cell? ⟨g, 4, none⟩ = some (.slice (some ⟨b, o, none⟩) marks.length c) := hC.blk.cell 4
    go_simp
    first | exact ⟨rfl, hC⟩ | exact hC
  have e' : vs 5 = _ := e
  rw [e']
  clear e e'
  simp only [Act.put, sqA, sqB, sqC]
  refine ⟨.inl ⟨rfl, fun dd w' hd hnx hw hC => ?_⟩, fun e => ?_⟩
  · go_simp
    first | exact ⟨rfl, hC⟩ | exact hC
  have e' : vs 6 = _ := e
  rw [e']
  clear e e'
  simp only [Act.put, sqA, sqB, sqC]
  refine ⟨.inl ⟨rfl, fun dd w' hd hnx hw hC => ?_⟩, fun e => ?_⟩
  · go_simp
    first | exact ⟨rfl, hC⟩ | exact hC
  have e' : vs 7 = _ := e
  rw [e']
  clear e e'
  simp only [Act.put, sqA, sqB, sqC]
  refine ⟨.inl ⟨rfl, fun dd w' hd hnx hw hC => ?_⟩, fun e => ?_⟩
  · have h1 : w'.cell? ⟨b, o + k, none⟩ = some (.map (some m)) := hC.t.cell pk hbg
    go_simp
    first | exact ⟨rfl, hC⟩ | exact hC
  have e' : vs 8 = _ := e
  rw [e']
  clear e e'
  simp only [Act.put, sqA, sqB, sqC]
  refine ⟨.inl ⟨rfl, fun dd w' hd hnx hw hC => ?_⟩, fun e => ?_⟩
  · have h17 := no_of hC.c1 hd
    have h20 := no_of hC.c2 h17
    have hs0 := hC.s0 hd
    go_simp
    refine (clone_any m F w' (hFm.out w' hC.t)).mono ?_
    rintro e w4 ⟨rfl, m4, h4, hs4⟩
    rw [hs0] at m4 hs4 ⊢
    exact ⟨_, rfl, rfl, hC.t.trans (Turn.of_new (S := fun _ => False) h4) (fun _ e => e.elim), (fun _ => (hC.b h20).trans (h4.mono (by omega))), (fun _ => rfl), hC.c2, (fun e => by cases e), (fun _ _ => hs4), (fun _ => m4), (fun e => by
      have e' : dd 17 = true := e
      rw [h17] at e'; cases e'), hC.blk.below h4 (by omega)⟩
  have e' : vs 9 = _ := e
  rw [e']
  clear e e'
  simp only [Act.put, sqA, sqB, sqC]
  refine ⟨.inl ⟨rfl, fun dd w' hd hnx hw hC => ?_⟩, fun e => ?_⟩
  · go_simp
    first | exact ⟨rfl, hC⟩ | exact hC
  have e' : vs 10 = _ := e
  rw [e']
  clear e e'
  simp only [Act.put, sqA, sqB, sqC]
  refine ⟨.inl ⟨rfl, fun dd w' hd hnx hw hC => ?_⟩, fun e => ?_⟩
  · go_simp
    first | exact ⟨rfl, hC⟩ | exact hC
  have e' : vs 11 = _ := e
  rw [e']
  clear e e'
  simp only [Act.put, sqA, sqB, sqC]
  refine ⟨.inl ⟨rfl, fun dd w' hd hnx hw hC => ?_⟩, fun e => ?_⟩
  · go_simp
    first | exact ⟨rfl, hC⟩ | exact hC
  have e' : vs 12 = _ := e
  rw [e']
  clear e e'
  simp only [Act.put, sqA, sqB, sqC]
  refine ⟨.inl ⟨rfl, fun dd w' hd hnx hw hC => ?_⟩, fun e => ?_⟩
  · have h1 : w'.cell? ⟨g, 4, none⟩ = some (.slice (some ⟨b, o, none⟩) marks.length c) := hC.blk.cell 4
    go_simp
    first | exact ⟨rfl, hC⟩ | exact hC
  have e' : vs 13 = _ := e
  rw [e']
  clear e e'
  simp only [Act.put, sqA, sqB, sqC]
  refine ⟨.inl ⟨rfl, fun dd w' hd hnx hw hC => ?_⟩, fun e => ?_⟩
  · go_simp
    first | exact ⟨rfl, hC⟩ | exact hC
  have e' : vs 14 = _ := e
  rw [e']
  clear e e'
  simp only [Act.put, sqA, sqB, sqC]
  refine ⟨.inl ⟨rfl, fun dd w' hd hnx hw hC => ?_⟩, fun e => ?_⟩
  · go_simp
    first | exact ⟨rfl, hC⟩ | exact hC
  have e' : vs 15 = _ := e
  rw [e']
  clear e e'
  simp only [Act.put, sqA, sqB, sqC]
  refine ⟨.inl ⟨rfl, fun dd w' hd hnx hw hC => ?_⟩, fun e => ?_⟩
  · have h1 : w'.cell? ⟨b, o + k, none⟩ = some (.map (some m)) := hC.t.cell pk hbg
    go_simp
    first | exact ⟨rfl, hC⟩ | exact hC
  have e' : vs 16 = _ := e
  rw [e']
  clear e e'
  simp only [Act.put, sqA, sqB, sqC]
  refine ⟨.inl ⟨rfl, fun dd w' hd hnx hw hC => ?_⟩, fun e => ?_⟩
  · have h9 : dd 9 = true := hw 9 (by kernel_rfl)
    have h20 := no_of hC.c2 hd
    have hs1 := hC.s1 h9 hd
    go_simp
    refine (clone_any m F w' (hFm.out w' hC.t)).mono ?_
    rintro e w4 ⟨rfl, m4, h4, hs4⟩
    rw [hs1] at m4 hs4 ⊢
    exact ⟨_, rfl, rfl, hC.t.trans (Turn.of_new (S := fun _ => False) h4) (fun _ e => e.elim), (fun _ => (hC.b h20).trans (h4.mono (by omega))), (fun _ => h9), (fun _ => rfl), (fun e => by
      have e' : dd 9 = false := e
      rw [h9] at e'; cases e'), (fun _ e => by cases e), (fun _ => (hC.m1 h9).below h4), (fun _ => m4), hC.blk.below h4 (by omega)⟩
  have e' : vs 17 = _ := e
  rw [e']
  clear e e'
  simp only [Act.put, sqA, sqB, sqC]
  refine ⟨.inl ⟨rfl, fun dd w' hd hnx hw hC => ?_⟩, fun e => ?_⟩
  · go_simp
    first | exact ⟨rfl, hC⟩ | exact hC
  have e' : vs 18 = _ := e
  rw [e']
  clear e e'
  simp only [Act.put, sqA, sqB, sqC]
  refine ⟨.inl ⟨rfl, fun dd w' hd hnx hw hC => ?_⟩, fun e => ?_⟩
  · go_simp
    first | exact ⟨rfl, hC⟩ | exact hC
  have e' : vs 19 = _ := e
  rw [e']
  clear e e'
  simp only [Act.put, sqA, sqB, sqC]
  refine ⟨.inl ⟨rfl, fun dd w' hd hnx hw hC => ?_⟩, fun e => ?_⟩
  · have h9 : dd 9 = true := hw 9 (by kernel_rfl)
    have h17 : dd 17 = true := hw 17 (by kernel_rfl)
    have hb := hC.blk
    rw [hd, if_neg (by simp)] at hb
    have h1 : w'.cell? ⟨g, 1, none⟩ = some (.map (some rs)) := hb.cell 1
    have fz := hb.frozen 1
    have tu := Turn.setCell (S := fun b => b = g) w' ⟨g, 1, none⟩ (.map (some w.heap.size)) rfl
    have hm1 := hC.m1 h9
    have hm2 := hC.m2 h17
    have hfin0 : BkC w g rs rd vl (.slice (some ⟨b, o, none⟩) marks.length c) n f h F true true true (w'.setCell ⟨g, 1, none⟩ (.map (some w.heap.size))) := ⟨hC.t.trans tu fun _ e => .inl e, (fun e => by cases e), fun _ => rfl, fun _ => rfl, (fun e => by cases e), (fun _ e => by cases e),
      (fun _ => hm1.turn tu fun e => by omega), (fun _ => hm2.turn tu fun e => by omega), hb.setCell_same 1 _⟩
    have hfin : BkC w g rs rd vl (.slice (some ⟨b, o, none⟩) marks.length c) n f h F (dd 9) (dd 17) true (w'.setCell ⟨g, 1, none⟩ (.map (some w.heap.size))) := by rw [h9, h17]; exact hfin0
    go_simp
    first | exact ⟨trivial, hfin⟩ | exact hfin
  simp only [Act.put]
  clear e
  intro dd w4 hall hC
  rw [hall 9 (by omega), hall 17 (by omega), hall 20 (by omega)] at hC
  have hb := hC.blk
  rw [if_pos rfl] at hb
  have p2 : w4.cell? ⟨g, 2, none⟩ = some (.map (some rd)) := hb.cell 2
  have fz := hb.frozen 2
  have tu := Turn.setCell (S := fun b => b = g) w4 ⟨g, 2, none⟩ (.map (some (w.heap.size + 1))) rfl
  have M5 := hid (show Mm (w4.setCell ⟨g, 2, none⟩ (.map (some (w.heap.size + 1)))) g w.heap.size (w.heap.size + 1) vl (.slice (some ⟨b, o, none⟩) (ms.map some).length c) ms n F F log marks f h from
    HH.out.clones (hC.t.trans tu fun _ e => .inl e) (by rw [HV.out]; exact hb.setCell_same 2 _) ((hC.m1 rfl).turn tu fun e => by omega) ((hC.m2 rfl).turn tu fun e => by omega) (by omega) (Nat.le_refl _) (by omega))
  have T5 := hid (show Turn (fun b => b = g) w (w4.setCell ⟨g, 2, none⟩ (.map (some (w.heap.size + 1)))) from hC.t.trans tu fun _ e => .inl e)
  clear hC hb tu hFm HH hF HV hall
  go_upto_region 6 with fail
  generalize World.setCell w4 _ _ = w5 at M5 T5 ⊢
  have p3 : w5.cell? ⟨g, 3, none⟩ = some vl := M5.out.blk.cell 3
  have fz := M5.out.blk.frozen 3
  have M6 := hid M5.out.noLog
  have T6 := hid (T5.out.trans (Turn.setCell (S := fun b => b = g) w5 ⟨g, 3, none⟩ (.slice none 0 0) rfl) fun _ e => .inl e)
  clear M5 T5
  go_upto_region 7 with fail
  generalize World.setCell w5 _ _ = w6 at M6 T6 ⊢
  have p6 : w6.cell? ⟨g, 6, none⟩ = some (.bool h) := M6.out.blk.cell 6
  have fz := M6.out.blk.frozen 6
  have M7 := hid (M6.out.hurt true)
  have T7 := hid (T6.out.trans (Turn.setCell (S := fun b => b = g) w6 ⟨g, 6, none⟩ (.bool true) rfl) fun _ e => .inl e)
  clear M6 T6
  go_wp2_with fail
  go_ret
  exact ⟨rfl, _, _, M7.out, Nat.le_refl _, by omega, T7.out⟩
end
end MbO
end Go.Proofs.YtklmjdhhnnanoaaGreatDoor
