/-
  Rows of n bytes, by value and in memory, of any such type: loads, stores, new variables, returns, comparisons.
  Structs of any fields: built out of all their fields.
  A region that draws its order, whose values may hang on the order (addresses of what it makes): of each operation's value one states what it is like (S, of no world) and what the world then holds of it and of those it waits for (D, kept by what the others do: K).
  Two slices of the call's own beside each other: where the result of an append lies.
  An append leaves the slice that it was given as it was; the append in a region that draws its order.
  As XRegRel; what the world holds of a value is kept by those operations alone that it does not wait for.
  A region that draws its order, in which several operations write: the class of worlds hangs on which of them have come up (D), and on nothing else.
  A region that draws its order, whose values may hang on the order and on what a call makes of the world: of each operation's value one states what it is like (S), what the world then holds of it (D, kept by what the others do: K), and which operations have come up (C).
  Rows of bytes of any type compared; loaded, in regions whose values hang on their order.
  Regions whose values hang on their order: known values, and operations whose value is only known to be of a kind, with what the world holds of it.
  Lists of elements: a literal of one element; a struct's literal; one element that stands in a new block.
  Lists of elements: an append to a slice that is full: a row of its own.
  Lists of elements: a literal of two elements.
  A region that draws its order: of each operation's value one states what it is like (S); of the worlds what holds by which operations have come up, and by their values (C).
  The document's row of sectors in memory: its block, its columns, and which are lost.
  What is lost brought back: the program's Fix and the document's, of a row and the columns that are lost.
  A region in the text's order, walked as one that draws it (a class of worlds is handed on; guards are read off).
  The program's row of sectors in memory: its block, its columns, and which are there.
  Contracts of the document's row (casemateref16): has, Get, Lose, Put, Lost.
-/
import Derived.Test.YtlbfjnddbdpdpaaMrg4
import Derived.Deep.DeepAppendRoom
set_option linter.unusedVariables false
set_option linter.unusedSimpArgs false
set_option maxRecDepth 100000
namespace Go.Proofs.Ytlbfjnddbdpdpaa
open Go.ChangeShapes Go.WideShapes Go.ChangeAt Go.RowKit
/-- n bytes. -/
def ar (n : Nat) (f : Nat → Nat) : Array Value := row n fun k => .int .u8 (f k : Nat)
section
variable {n k v : Nat} {f g : Nat → Nat}
theorem size_ar : (ar n f).size = n := size_row
theorem get_ar (h : k < n) : (ar n f)[k]? = some (.int .u8 (f k : Nat)) := get_row_lt h
theorem ar_ext (h : ∀ k, k < n → f k = g k) : ar n f = ar n g := row_ext fun k hk => by rw [h k hk]
theorem ar_inj (h : ar n f = ar n g) : ∀ k, k < n → f k = g k := fun k hk => by
  have := row_inj h k hk
  simp only [Value.int.injEq, true_and] at this
  exact Int.ofNat_inj.1 this
theorem ar_set : (ar n f).setIfInBounds k (.int .u8 (v : Nat)) = ar n fun j => if j = k then v else f j := by
  unfold ar
  rw [row_set]
  exact row_ext fun j _ => by by_cases e : j = k <;> simp [e]
theorem ar_one : (ar n f).all (·.oneCell') = true := row_one fun _ _ => rfl
theorem ar_list_get {j : Nat} {v : Value} (h : (ar n f).toList[j]? = some v) : j < n ∧ v = .int .u8 (f j : Nat) := by
  rw [Array.getElem?_toList] at h
  by_cases hj : j < n
  · rw [get_ar hj] at h; exact ⟨hj, (Option.some.inj h).symm⟩
  · rw [ar, get_row, if_neg hj] at h; cases h
theorem ar_getD {j : Nat} (h : j < n) : (ar n f).toList.getD j undef = .int .u8 (f j : Nat) := by
  rw [List.getD_eq_getElem?_getD, Array.getElem?_toList, get_ar h]; rfl
/-- A loop over bytes: behind k rounds the first k are turned. -/
def upTo (k : Nat) (f h : Nat → Nat) : Nat → Nat := fun j => if j < k then h j else f j
theorem upTo_zero {f h : Nat → Nat} : upTo 0 f h = f := by funext j; simp [upTo]
theorem upTo_at {k : Nat} {f h : Nat → Nat} : upTo k f h k = f k := by simp [upTo]
theorem upTo_step {w : World} {b n k : Nat} {t : TypeId} {f h : Nat → Nat} (hb : Blk w b t ((ar n (upTo k f h)).setIfInBounds k (.int .u8 (h k : Nat)))) : Blk w b t (ar n (upTo (k + 1) f h)) := by
  rw [ar_set] at hb
  rw [ar_ext (g := fun j => if j = k then h k else upTo k f h j) fun j _ => ?_]
  · exact hb
  · unfold upTo
    by_cases e : j = k
    · subst e; simp
    · simp only [e, if_false]
      by_cases h2 : j < k
      · rw [if_pos h2, if_pos (by omega)]
      · rw [if_neg h2, if_neg (by omega)]
theorem upTo_all {n : Nat} {f h : Nat → Nat} {k : Nat} (hk : n ≤ k) : ar n (upTo k f h) = ar n h := ar_ext fun j hj => by unfold upTo; rw [if_pos (by omega)]
theorem Blk.arRange {w : World} {b o m : Nat} {t : TypeId} (hb : Blk w b t (ar n f)) (h : o + m ≤ n) : w.rangeAt b o (ar m fun k => f (o + k)).toList := fun j v hv => by
  obtain ⟨h1, rfl⟩ := ar_list_get hv
  rw [hb.cell, get_ar (by omega)]
/-- The bytes from place o on replaced. -/
def putA (o m : Nat) (f h : Nat → Nat) : Nat → Nat := fun j => if o ≤ j ∧ j < o + m then h (j - o) else f j
theorem Blk.arPut {w : World} {b o m : Nat} {t : TypeId} {h : Nat → Nat} (hb : Blk w b t (ar n f)) (hm : o + m ≤ n) : Blk (w.setCells b o (ar m h).toList) b t (ar n (putA o m f h)) ∧ Below b w (w.setCells b o (ar m h).toList) := by
  have hl : (ar m h).toList.length = m := by rw [Array.length_toList, size_ar]
  obtain ⟨h1, h2⟩ := blk_setCells (ar m h).toList o w _ hb (by rw [hl]; omega)
  refine ⟨?_, h2⟩
  have e : (row n fun j => if o ≤ j ∧ j < o + (ar m h).toList.length then (ar m h).toList.getD (j - o) undef else Value.int .u8 (f j : Nat)) = ar n (putA o m f h) := row_ext fun j _ => by
    rw [hl]
    show _ = Value.int .u8 ((if o ≤ j ∧ j < o + m then h (j - o) else f j : Nat) : Int)
    by_cases e : o ≤ j ∧ j < o + m
    · rw [if_pos e, if_pos e, ar_getD (by omega)]
    · rw [if_neg e, if_neg e]
  rw [e] at h1
  exact h1
theorem Blk.there {w : World} {b o m N : Nat} {t : TypeId} {F : Nat → Value} (hb : Blk w b t (row N F)) (hm : o + m ≤ N) : w.there b o m := fun j hj => by
  refine ⟨?_, hb.frozen _⟩
  rw [hb.cell, get_row_lt (by omega)]; rfl
end
/-- Of type T is a row of n bytes. -/
structure ArT (T : TypeId) (n : Nat) : Prop where
  size : (Try.prog.info? T).map (·.size) = some n
  desc : ∃ d, Try.prog.underlying T = some d ∧ d.isRow = true
  zero : ∀ w, (zeroValue T).run Try.prog w = .ok (.agg (ar n fun _ => 0)) w
section
variable {ops : Array Oper} {Q : Exit → Act → World → Prop} {a : Act} {w : World} {rest : List Oper} {dst : Option Tmp} {ty : TypeId} {pos : String} {after : Array Edge} {x y : Operand} {g o n m : Nat} {f f0 : Nat → Nat} {T t : TypeId}
theorem Blk.head (hb : Blk w g t (ar n f)) : w.rangeAt g 0 (ar n f).toList := by
  have h := hb.arRange (o := 0) (m := n) (by omega)
  rw [ar_ext (g := f) fun k _ => by rw [Nat.zero_add]] at h
  exact h
theorem ldAm (hT : ArT T n) (hx : a.eval x = .pointer (some ⟨g, o, none⟩)) (hb : w.rangeAt g o (ar n f).toList) (h : wpList Try.prog ops Q rest (a.put dst (.agg (ar n f))) w) :
    wpList Try.prog ops Q (⟨dst, .load T x, ty, pos, after, none⟩ :: rest) a w := by
  obtain ⟨d, h1, h2⟩ := hT.desc
  exact step_load_mid hb h1 h2 (hT.size.trans (by rw [Array.length_toList, size_ar])) hx (by rw [Array.toArray_toList]; exact h)
theorem ldA (hT : ArT T n) (hx : a.eval x = .pointer (some ⟨g, 0, none⟩)) (hb : Blk w g t (ar n f)) (h : wpList Try.prog ops Q rest (a.put dst (.agg (ar n f))) w) :
    wpList Try.prog ops Q (⟨dst, .load T x, ty, pos, after, none⟩ :: rest) a w := ldAm hT hx hb.head h
theorem stA (hT : ArT T n) (hx : a.eval x = .pointer (some ⟨g, 0, none⟩)) (hy : a.eval y = .agg (ar n f)) (hb : Blk w g t (ar n f0)) (h : wpList Try.prog ops Q rest (a.put dst undef) (w.setRow g (ar n f))) :
    wpList Try.prog ops Q (⟨dst, .store T x y, ty, pos, after, none⟩ :: rest) a w :=
  step_store_row hb (hT.size.trans (by rw [size_ar])) (by rw [size_ar, size_ar]) ar_one hx hy h
theorem run_alloc_ar (hT : ArT T n) (w : World) : (Instr.alloc T true (.tuple #[])).run Try.prog w = .ok (.pointer (some ⟨w.heap.size, 0, none⟩)) (w.alloc (.cells (ar n fun _ => 0) T)) := by
  simp [Instr.alloc, Sem.run_bind, hT.zero w, newVar, newRow, Value.cells]
theorem alA (hT : ArT T n) (h : wpList Try.prog ops Q rest (a.put dst (.pointer (some ⟨w.heap.size, 0, none⟩))) (w.alloc (.cells (ar n fun _ => 0) T))) :
    wpList Try.prog ops Q (⟨dst, .alloc T, ty, pos, after, none⟩ :: rest) a w := by
  refine wpList_plain rfl fun K hK => ?_
  unfold Oper.wp execOp
  simp only [Sem.run_bind, run_alloc_ar hT w, Result.andThen_ok, Sem.run_pure]
  exact hK _ _ h
theorem run_ldm (hT : ArT T n) {w : World} (hb : w.rangeAt g o (ar n f).toList) : (Instr.loadAt T (.pointer (some ⟨g, o, none⟩))).run Try.prog w = .ok (.agg (ar n f)) w := by
  obtain ⟨d, h1, h2⟩ := hT.desc
  have := run_loadAt_mid (P := Try.prog) w g o T (ar n f).toList _ hb h1 h2 (hT.size.trans (by rw [Array.length_toList, size_ar]))
  rwa [Array.toArray_toList] at this
section
variable {C : World → Prop} {Qk : Act → Prop} {gd : Option (Nat × Bool)}
theorem kldA (hT : ArT T n) (hwt : Region.wanted ⟨dst, .load T x, ty, pos, after, gd⟩ (yielded ops a.tmps) = true) (hx : a.eval x = .pointer (some ⟨g, o, none⟩)) (hb : ∀ w, C w → w.rangeAt g o (ar n f).toList) (h : wpK Try.prog ops C Qk rest (a.put dst (.agg (ar n f)))) :
    wpK Try.prog ops C Qk (⟨dst, .load T x, ty, pos, after, gd⟩ :: rest) a :=
  wpK_val hwt (fun w hw => gives_value (w' := w) (by simp only [execOp, hx, Sem.run_bind, run_ldm hT (hb w hw), Result.andThen_ok, Sem.run_pure]) hw) h
end
theorem ret_ar {fn : Func} {R : Ending → World → Prop} {p : Tmp} (hT : ArT T n) (hr : fn.results = #[.cell p T]) (hp : a.tmps.getD p undef = .pointer (some ⟨g, 0, none⟩)) (hdf : a.defers = [])
    (hb : Blk w g t (ar n f)) (hR : R (.returned (.agg (ar n f))) w) : bodyPost Try.prog fn R .ret a w := by
  obtain ⟨d, h1, h2⟩ := hT.desc
  exact ret_row hr hb h1 h2 (hT.size.trans (by rw [size_ar])) hp hdf hR
end
theorem run_index_ar {T : TypeId} {n k : Nat} {f : Nat → Nat} (hT : Try.prog.underlying T = some (.array n 5)) (hk : k < n) (w : World) : (Instr.index T (.agg (ar n f)) (.int .i64 k)).run Try.prog w = .ok (.int .u8 (f k : Nat)) w := by
  have h1 : (0 : Int) ≤ (k : Int) ∧ (k : Int) < n := by omega
  have hz : (Try.prog.info? 5).map (·.size) = some 1 := by kernel_rfl
  simp [Instr.index, run_underlying hT, asIntOf, h1, go_sem]
  rw [if_pos hk, get_ar hk]; rfl
def eqA (n : Nat) (f g : Nat → Nat) : Bool := eqN n (fun k => f k) fun k => g k
theorem eqA_iff {n : Nat} {f g : Nat → Nat} : eqA n f g = true ↔ ∀ k, k < n → f k = g k := by
  unfold eqA eqN
  rw [List.all_eq_true]
  constructor
  · intro h k hk
    have := h k (List.mem_range.2 hk)
    exact Int.ofNat_inj.1 (beq_iff_eq.1 this)
  · intro h k hk
    have := h k (List.mem_range.1 hk)
    exact beq_iff_eq.2 (congrArg _ this)
theorem eqA_yes {n : Nat} {f g : Nat → Nat} (h : ∀ k, k < n → f k = g k) : eqA n f g = true := eqA_iff.2 h
theorem eqA_no {n : Nat} {f g : Nat → Nat} (h : ¬ ∀ k, k < n → f k = g k) : eqA n f g = false := by
  cases e : eqA n f g with
  | false => rfl
  | true => exact absurd (eqA_iff.1 e) h
theorem run_eql_ar {T : TypeId} {n : Nat} (hT : Try.prog.underlying T = some (.array n 5)) (w : World) (f g : Nat → Nat) : (binOp .eql T (.agg (ar n f)) (.agg (ar n g))).run Try.prog w = .ok (.bool (eqA n f g)) w := by
  rw [run_eql_struct]
  have := run_equalIn_row (P := Try.prog) (d := 9998) (t := T) (e := 5) (k := .u8) (n := n) (f := fun k => f k) (g := fun k => g k) hT Try.underlying5 (by kernel_rfl) w
  unfold ar
  rw [this]
  rfl
theorem run_neq_ar {T : TypeId} {n : Nat} (hT : Try.prog.underlying T = some (.array n 5)) (w : World) (f g : Nat → Nat) : (binOp .neq T (.agg (ar n f)) (.agg (ar n g))).run Try.prog w = .ok (.bool (!eqA n f g)) w := by
  rw [run_neq_struct]
  have := run_equalIn_row (P := Try.prog) (d := 9998) (t := T) (e := 5) (k := .u8) (n := n) (f := fun k => f k) (g := fun k => g k) hT Try.underlying5 (by kernel_rfl) w
  unfold ar
  rw [this]
  rfl
theorem extract_ar {N m o : Nat} {f : Nat → Nat} (h : o + m ≤ N) : (ar N f).extract o (o + m) = ar m fun i => f (o + i) := by
  apply Array.ext_getElem?
  intro k
  rw [Array.getElem?_extract]
  by_cases hk : k < m
  · rw [if_pos (by rw [size_ar]; omega), get_ar (by omega), get_ar hk]
  · rw [if_neg (by rw [size_ar]; omega), ar, get_row, if_neg hk]
theorem size_of {T : TypeId} {m : Nat} (hT : ArT T m) (w : World) : (sizeOf T).run Try.prog w = .ok m w := by
  have h := hT.size
  cases hi : Try.prog.info? T with
  | none => rw [hi] at h; cases h
  | some i => rw [hi] at h; simp at h; simp [sizeOf, typeInfo, hi, h]
section
variable {a : Act} {w : World} {g h n m : Nat} {f f' : Nat → Nat} {T U : TypeId}
theorem run_ar_var {t : TypeId} (hT : ArT T n) (hb : Blk w g t (ar n f)) : (loadVar T ⟨g, 0, none⟩).run Try.prog w = .ok (.agg (ar n f)) w := by
  obtain ⟨d, h1, h2⟩ := hT.desc
  have := run_loadVar_mid (P := Try.prog) w g 0 T (ar n f).toList _ hb.head h1 h2 (hT.size.trans (by rw [Array.length_toList, size_ar]))
  rwa [Array.toArray_toList] at this
theorem ret_ar2 {t u : TypeId} {fn : Func} {R : Ending → World → Prop} {p q : Tmp} (hT : ArT T n) (hU : ArT U m) (hr : fn.results = #[.cell p T, .cell q U]) (hp : a.tmps.getD p undef = .pointer (some ⟨g, 0, none⟩)) (hq : a.tmps.getD q undef = .pointer (some ⟨h, 0, none⟩))
    (hdf : a.defers = []) (hb : Blk w g t (ar n f)) (hb' : Blk w h u (ar m f')) (hR : R (.returned (.tuple #[.agg (ar n f), .agg (ar m f')])) w) : bodyPost Try.prog fn R .ret a w := by
  refine bodyPost_ret ?_ hdf hR
  have hp' : a.tmps[p]?.getD undef = .pointer (some ⟨g, 0, none⟩) := by simpa using hp
  have hq' : a.tmps[q]?.getD undef = .pointer (some ⟨h, 0, none⟩) := by simpa using hq
  simp [results, hr, hp', hq', asAddr, run_ar_var hT hb, run_ar_var hU hb']
end
end Go.Proofs.Ytlbfjnddbdpdpaa
set_option maxRecDepth 100000
namespace Go.Proofs.Ytlbfjnddbdpdpaa
open Go.ChangeShapes Go.WideShapes Go.ChangeAt Go.RowKit
/-- Places one behind the other. -/
def Consec : Nat → List (Nat × Nat) → Prop
  | _, [] => True
  | off, (o, n) :: l => o = off ∧ Consec (off + n) l
/-- The parts of a literal, from field i on. -/
def partsAt : Nat → List Value → List (Nat × Value)
  | _, [] => []
  | i, v :: l => (i, v) :: partsAt (i + 1) l
theorem fold_list (pre z : List Value) : ∀ (cs : List Value) (k : Nat), k + cs.length ≤ z.length →
    (cs.zipIdx k).foldl (fun (acc : Array Value) x => acc.setIfInBounds (pre.length + x.2) x.1) (pre ++ z).toArray = (pre ++ (z.take k ++ cs ++ z.drop (k + cs.length))).toArray
  | [], k, h => by
    simp only [List.zipIdx_nil, List.foldl_nil, List.length_nil, Nat.add_zero, List.append_nil, List.take_append_drop]
  | c :: cs, k, h => by
    simp only [List.length_cons] at h
    rw [List.zipIdx_cons, List.foldl_cons]
    have e : ((pre ++ z).toArray).setIfInBounds (pre.length + k) c = (pre ++ (z.set k c)).toArray := by
      rw [List.setIfInBounds_toArray, List.set_append_right _ _ (by omega), Nat.add_sub_cancel_left]
    show ((cs.zipIdx (k + 1)).foldl _ (((pre ++ z).toArray).setIfInBounds (pre.length + k) c)) = _
    rw [e, fold_list pre (z.set k c) cs (k + 1) (by rw [List.length_set]; omega)]
    congr 2
    rw [List.drop_set_of_lt (by omega), List.take_set, List.length_cons, show k + 1 + cs.length = k + (cs.length + 1) by omega]
    congr 1
    rw [List.take_add_one, List.getElem?_eq_getElem (show k < z.length by omega), Option.toList_some, List.set_append_right _ _ (by rw [List.length_take]; omega)]
    rw [List.length_take, Nat.min_eq_left (by omega), Nat.sub_self, List.set_cons_zero, List.append_assoc]
    rfl
theorem fill_consec {place : Nat → Option (Nat × Nat)} : ∀ (vs : List Value) (ss : List (Nat × Nat)) (pre z : List Value) (i : Nat), Consec pre.length ss → vs.map (·.cells.size) = ss.map (·.2) →
    ((ss.map (·.2)).sum ≤ z.length) → (∀ j, j < ss.length → place (i + j) = ss[j]?) →
    Instr.fill place (pre ++ z).toArray (partsAt i vs) = some (pre ++ (vs.flatMap (·.cells.toList) ++ z.drop (ss.map (·.2)).sum)).toArray
  | [], ss, pre, z, i, _, h, _, _ => by
    have : ss = [] := by simpa using h.symm
    subst this
    simp [partsAt, Instr.fill]
  | v :: vs, [], pre, z, i, _, h, _, _ => by simp at h
  | v :: vs, (o, n) :: ss, pre, z, i, hc, h, hz, hp => by
    obtain ⟨rfl, hc⟩ := hc
    simp only [List.map_cons, List.cons.injEq, List.sum_cons] at h hz
    obtain ⟨h1, h2⟩ := h
    have hpl := hp 0 (by simp)
    simp only [Nat.add_zero, List.getElem?_cons_zero] at hpl
    rw [partsAt, Instr.fill]
    simp only [hpl]
    rw [if_neg (by simp; omega)]
    have e : v.cells.zipIdx.foldl (fun (cs : Array Value) (c, j) => cs.setIfInBounds (pre.length + j) c) (pre ++ z).toArray = ((pre ++ v.cells.toList) ++ z.drop n).toArray := by
      rw [← Array.foldl_toList, Array.toList_zipIdx]
      refine (fold_list pre z v.cells.toList 0 (by rw [Array.length_toList]; omega)).trans ?_
      rw [List.take_zero, List.nil_append, Array.length_toList, Nat.zero_add, h1, List.append_assoc]
    rw [e, fill_consec vs ss (pre ++ v.cells.toList) (z.drop n) (i + 1) (by have e2 : (pre ++ v.cells.toList).length = pre.length + n := (by rw [List.length_append, show v.cells.toList.length = n from Array.length_toList.trans h1]); rw [e2]; exact hc) h2 (by rw [List.length_drop]; omega) (fun j hj => by
      have := hp (j + 1) (by simp only [List.length_cons]; omega)
      rwa [List.getElem?_cons_succ, show i + (j + 1) = i + 1 + j by omega] at this)]
    rw [List.flatMap_cons, List.drop_drop, List.map_cons, List.sum_cons]
    simp only [List.append_assoc]
/-- A struct out of all its fields. -/
theorem built_struct {T : TypeId} {fs : Array Field} {ss : List (Nat × Nat)} {N : Nat} (hz : ((Try.prog.info? T).bind (·.zero)).map (·.cells.size) = some N) (hf : Try.prog.underlying T = some (.struct fs))
    (hp : fs.toList.mapM (fun f => (Try.prog.info? f.type).map fun i => (f.offset, i.size)) = some ss) (hc : Consec 0 ss) (hN : (ss.map (·.2)).sum = N) (vs : List Value) (hv : vs.map (·.cells.size) = ss.map (·.2)) :
    Try.prog.built T (partsAt 0 vs) = some (vs.flatMap (·.cells.toList)).toArray := by
  have h1 : ∃ i z, Try.prog.info? T = some i ∧ i.zero = some z ∧ z.cells.size = N := by
    cases h : Try.prog.info? T with
    | none => rw [h] at hz; cases hz
    | some i =>
      rw [h] at hz
      cases h2 : i.zero with
      | none => simp [h2] at hz
      | some z => simp [h2] at hz; exact ⟨i, z, rfl, h2, hz⟩
  obtain ⟨i, z, hi, hz, hzN⟩ := h1
  unfold Program.built
  rw [hi, hf]
  simp only [hz, hp]
  have := fill_consec (place := fun i => ss.toArray[i]?) vs ss [] z.cells.toList 0 hc hv (by rw [Array.length_toList]; omega) (fun j _ => by rw [Nat.zero_add, List.getElem?_toArray])
  simp only [List.nil_append] at this
  rw [List.drop_eq_nil_of_le (by rw [Array.length_toList]; omega), List.append_nil, Array.toArray_toList] at this
  exact this
end Go.Proofs.Ytlbfjnddbdpdpaa
set_option maxRecDepth 100000
namespace Go.Proofs.Ytlbfjnddbdpdpaa
open Go.RowKit
section
variable {P : Program} {ops : Array Oper}
def updV (vs : Nat → Value) (i : Nat) (v : Value) : Nat → Value := fun j => if j = i then v else vs j
theorem updV_self (vs : Nat → Value) (i : Nat) (v : Value) : updV vs i v i = v := if_pos rfl
theorem updV_ne (vs : Nat → Value) {i j : Nat} (v : Value) (h : j ≠ i) : updV vs i v j = vs j := if_neg h
/-- The operations in the order of the text, the k-th first. -/
def wpR (P : Program) (ops : Array Oper) (S : Nat → Value → Prop) (D : Nat → (Nat → Value) → World → Prop) (K : Nat → (Nat → Value) → World → World → Prop) (C : World → Prop) (Q : (Nat → Value) → Act → Prop) : Nat → (Nat → Value) → List Oper → Act → Prop
  | _, vs, [], a => Q vs a
  | k, vs, o :: rest, a => ((Region.wanted o (yielded ops a.tmps) = true ∧ ∀ w, C w → (∀ j, Region.waitsFor .any ops k j = true → D j vs w) →
      ∃ v, S k v ∧ Gives P o a w v fun w' => C w' ∧ K k vs w w' ∧ D k (updV vs k v) w') ∨
      (Region.wanted o (yielded ops a.tmps) = false ∧ S k undef ∧ ∀ w, D k (updV vs k undef) w)) ∧ (S k (vs k) → wpR P ops S D K C Q (k + 1) vs rest (a.put o.dst (vs k)))
theorem wpR_at {S : Nat → Value → Prop} {D : Nat → (Nat → Value) → World → Prop} {K : Nat → (Nat → Value) → World → World → Prop} {C : World → Prop} {Qk : (Nat → Value) → Act → Prop} {vs : Nat → Value} (hS : ∀ j, S j (vs j)) : ∀ (l : List Oper) (k : Nat) (a : Act), wpR P ops S D K C Qk k vs l a →
    Qk vs (lexF l (fun i => vs (k + i)) l.length a) ∧ ∀ i o, l[i]? = some o →
      ((Region.wanted o (yielded ops (lexF l (fun i => vs (k + i)) i a).tmps) = true ∧ ∀ w, C w → (∀ j, Region.waitsFor .any ops (k + i) j = true → D j vs w) →
        ∃ v, S (k + i) v ∧ Gives P o (lexF l (fun i => vs (k + i)) i a) w v fun w' => C w' ∧ K (k + i) vs w w' ∧ D (k + i) (updV vs (k + i) v) w') ∨
      (Region.wanted o (yielded ops (lexF l (fun i => vs (k + i)) i a).tmps) = false ∧ S (k + i) undef ∧ ∀ w, D (k + i) (updV vs (k + i) undef) w))
  | [], k, a, h => ⟨h, fun i o hi => by simp at hi⟩
  | o :: l, k, a, h => by
    obtain ⟨h1, h2⟩ := h
    obtain ⟨hq, hs⟩ := wpR_at hS l (k + 1) _ (h2 (hS k))
    have e : (fun i => vs (k + 1 + i)) = fun i => vs (k + (i + 1)) := funext fun i => by rw [show k + 1 + i = k + (i + 1) by omega]
    rw [e] at hq hs
    refine ⟨?_, fun i o' hi => ?_⟩
    · rw [List.length_cons, lexF_cons]; exact hq
    · cases i with
      | zero =>
        simp only [List.getElem?_cons_zero, Option.some.injEq] at hi
        subst hi
        exact h1
      | succ i =>
        rw [lexF_cons, show k + (i + 1) = k + 1 + i by omega]
        exact hs i o' (by simpa using hi)
theorem waits_ready {L : Array Bool} {i j : Nat} (hr : i ∈ Region.ready .any ops L) (hw : Region.waitsFor .any ops i j = true) : L.getD j false = true := by
  obtain ⟨hun, o, ho, hall⟩ := mem_ready.1 hr
  obtain ⟨o2, ho2, e2, he2, hb2, hon⟩ := Region.waitsFor_spec hw
  obtain rfl : o = o2 := Option.some.inj (ho.symm.trans ho2)
  have h1 := hall e2 he2 hb2
  rw [hon] at h1
  exact h1
theorem waits_closed {L : Array Bool} {i j : Nat} (hc : Closed ops L) (hl : L.getD i false = true) (hw : Region.waitsFor .any ops i j = true) : L.getD j false = true := by
  obtain ⟨o2, ho2, e2, he2, hb2, hon⟩ := Region.waitsFor_spec hw
  have := hc i o2 ho2 hl e2 he2 hb2
  rw [hon] at this
  exact this
theorem wp_region_rel {id : Nat} {Q : Exit → Act → World → Prop} {C : World → Prop} {S : Nat → Value → Prop} {D : Nat → (Nat → Value) → World → Prop} {K : Nat → (Nat → Value) → World → World → Prop} {a : Act} {w : World} {l : List Oper} (n : Nat)
    (hm : P.follows .mixedOrders = true) (ht : tidy l.toArray = true) (hB : tailB l.toArray n = true)
    (v0 : Nat → Value) (h0 : ∀ j, S j (v0 j)) (hD : ∀ i j vs w w', i < n → j ≠ i → D j vs w → K i vs w w' → D j vs w')
    (hL : ∀ j i vs v w, j ≠ i → Region.waitsFor .any l.toArray j i = false → D j vs w → D j (updV vs i v) w)
    (hC : C w.drew)
    (h : ∀ vs : Nat → Value, wpR P l.toArray S D K C (fun vs a' => ∀ w', C w' → (∀ k, k < n → D k vs w') → wpList P l.toArray Q (l.drop n) a' w') 0 vs (l.take n) a) : (Code.region id l.toArray true).wp P Q a w := by
  refine region_core (Γ := {vs : Nat → Value // ∀ j, S j (vs j)}) (C := fun γ L w' => C w' ∧ Closed l.toArray L ∧ ∀ k, k < n → L.getD k false = true → D k γ.1 w') n hm ht hB ⟨v0, h0⟩
    ⟨hC, (fun j o _ hl => by rw [getD_replicate_false] at hl; cases hl), fun k _ hk => by rw [getD_replicate_false] at hk; cases hk⟩ (fun γ => γ.1) ?_ ?_
  · intro i o hi γ L w' hsz hr ⟨hC', hcl, hDs⟩
    have hin : i < n := by
      have := (List.getElem?_eq_some_iff.1 hi).1
      rw [List.length_take] at this; omega
    have hun := getD_both (mem_ready.1 hr).1
    have hcl2 := closed_set hcl hr
    have key := (wpR_at γ.2 (l.take n) 0 a (h γ.1)).2 i o hi
    simp only [Nat.zero_add] at key
    have hwait : ∀ j, Region.waitsFor .any l.toArray i j = true → D j γ.1 w' := fun j hj => by
      have h1 := waits_ready hr hj
      have hji : j < i := by
        obtain ⟨o2, ho2, e2, he2, hb2, hon⟩ := Region.waitsFor_spec hj
        have := tidy_edge ht ho2 e2 he2 hb2
        omega
      exact hDs j (by omega) h1
    have step : ∀ (v : Value) (w2 : World), C w2 → (w2 = w' ∨ K i γ.1 w' w2) → D i (updV γ.1 i v) w2 →
        C w2 ∧ Closed l.toArray (L.setIfInBounds i true) ∧ ∀ k, k < n → (L.setIfInBounds i true).getD k false = true → D k (updV γ.1 i v) w2 := fun v w2 hc hb hd => by
      refine ⟨hc, hcl2, fun k hk hL' => ?_⟩
      by_cases e : k = i
      · subst e; exact hd
      · rw [getD_set_ne false (Ne.symm e)] at hL'
        have hw : Region.waitsFor .any l.toArray k i = false := by
          cases hx : Region.waitsFor .any l.toArray k i with
          | false => rfl
          | true =>
            have := waits_closed hcl hL' hx
            rw [hun] at this
            cases this
        refine hL k i _ v _ e hw ?_
        rcases hb with rfl | hb
        · exact hDs k hk hL'
        · exact hD i k _ _ _ hin e (hDs k hk hL') hb
    have upd : ∀ v, S i v → ∀ j, S j (updV γ.1 i v j) := fun v hv j => by
      by_cases e : j = i
      · subst e; rw [updV_self]; exact hv
      · rw [updV_ne _ _ e]; exact γ.2 j
    have keep : ∀ v j, L.getD j false = true → γ.1 j = updV γ.1 i v j := fun v j hj => by
      have : j ≠ i := fun e => by subst e; rw [hun] at hj; cases hj
      rw [updV_ne _ _ this]
    rcases key with ⟨k1, k2⟩ | ⟨k1, k2, k3⟩
    · obtain ⟨v, hv, hg⟩ := k2 w' hC' hwait
      refine ⟨⟨updV γ.1 i v, upd v hv⟩, keep v, .inl ⟨k1, ?_⟩⟩
      simp only [updV_self]
      exact gives_mono hg fun w2 ⟨h1, h2, h3⟩ => step v w2 h1 (.inr h2) h3
    · exact ⟨⟨updV γ.1 i undef, upd undef k2⟩, keep undef, .inr ⟨k1, updV_self _ _ _, step undef w' hC' (.inl rfl) (k3 w')⟩⟩
  · intro γ L w' hall ⟨hC', _, hDs⟩
    have key := (wpR_at γ.2 (l.take n) 0 a (h γ.1)).1
    have ez : (fun i => γ.1 (0 + i)) = γ.1 := funext fun i => by rw [Nat.zero_add]
    rw [ez] at key
    exact key w' hC' fun k hk => hDs k hk (hall k hk)
end
end Go.Proofs.Ytlbfjnddbdpdpaa
set_option maxRecDepth 100000
namespace Go.Proofs.Ytlbfjnddbdpdpaa
open Go.ChangeShapes Go.WideShapes Go.ChangeAt Go.RowKit
section
variable {ops : Array Oper} {Q : Exit → Act → World → Prop} {a : Act} {w : World} {rest : List Oper} {dst : Option Tmp} {ty : TypeId} {pos : String} {after : Array Edge} {s x : Operand} {m c B B' : Nat} {v : Value} {l kk : List Nat} {S e : TypeId} {k : IntKind} {ad : Addr}
theorem nums_reads (hrd : Nums k w B' (some ad) kk) (_hk : kk.length = m) : ∀ j u, (nums k kk)[j]? = some u → w.cell? (ad.add j) = some u := fun j u hj => by
  have hjm : j < kk.length := by
    have := (List.getElem?_eq_some_iff.1 hj).1
    rwa [nums_length] at this
  obtain ⟨b, o, e', _, hr⟩ := hrd (by omega)
  obtain rfl : ad = ⟨b, o, none⟩ := Option.some.inj e'
  rw [nums_get k hjm] at hj
  rw [Addr.add_mid, hr j hjm]
  exact hj
theorem nums_oneCell (kk : List Nat) : ∀ u ∈ nums k kk, u.oneCell' = true := fun u hu => by
  obtain ⟨y, _, rfl⟩ := List.mem_map.1 hu
  rfl
/-- It lies where the slice lay, or anew. -/
theorem run_appN_where (E : Elt S e k) (hown : Own e k w B v l) (hrd : Nums k w B' (some ad) kk) (hk : kk.length = m) (hsz : l.length + m ≤ 1000000) {v' : Value} {w' : World}
    (hr : (Builtin.append_ #[S, S] ty #[v, .slice (some ad) m c]).run Try.prog w = .ok v' w') : v'.ownBlock = v.ownBlock ∨ v'.ownBlock = some w.heap.size := by
  obtain ⟨i, hi, hz, h1, h2⟩ := E.inf
  have hbytes : (l.length + m) * i.bytes ≤ 140737488355328 := Nat.le_trans (Nat.mul_le_mul hsz h2) (by omega)
  have hl1 : (nums k kk).length = m * i.size := by rw [nums_length, h1, Nat.mul_one, hk]
  rcases hown.2 with ⟨rfl, h0⟩ | ⟨g, cap, cur, rfl, hB, hg, hnc, hcm, hcs, ht⟩
  · by_cases hm : m = 0
    · subst hm
      have hn : kk = [] := List.eq_nil_of_length_eq_zero hk
      subst hn
      left
      have hrun : (Builtin.append_ #[S, S] ty #[.slice none 0 0, .slice (some ad) 0 c]).run Try.prog w = .ok (.slice none 0 0) w := by
        simp [Builtin.append_, run_underlying E.und, sizeOf, typeInfo, hi, Builtin.lenOf, Builtin.firstCells, loadCells, loadCellsFrom]
      rw [hrun] at hr
      cases hr
      rfl
    · right
      rw [h0] at hbytes hsz
      rw [Nat.zero_add] at hbytes
      have hrun := run_append_nil (P := Try.prog) w S ty e i (.int k 0) E.und hi hz ad m c (nums k kk) hl1 (nums_reads hrd hk) (by omega) (by omega) (by omega)
      rw [hrun] at hr
      cases hr
      rfl
  · rw [Nat.mul_one] at hcs ht
    by_cases hroom : l.length + m ≤ cap
    · left
      have hrun := run_append_room (P := Try.prog) w S ty e i E.und hi g l.length cap cur hg ad m c (nums k kk) hl1 (nums_reads hrd hk) (nums_oneCell kk) hroom (by rw [h1, Nat.mul_one, nums_length, hcs]; omega)
      rw [hrun] at hr
      cases hr
      rfl
    · right
      have hown' : w.ownsRow B e i.size (.slice (some ⟨g, 0, none⟩) l.length cap) l.length (nums k l) := by rw [h1]; exact hown
      have holds : ∀ j u, (nums k l)[j]? = some u → w.cell? ((⟨g, 0, none⟩ : Addr).add j) = some u := hown.cells (g := g) rfl
      have hrun := run_append_grow (P := Try.prog) w S ty e i (.int k 0) E.und hi hz ⟨g, 0, none⟩ l.length cap (nums k l) (by rw [nums_length, h1, Nat.mul_one]) holds ad m c (nums k kk) hl1 (nums_reads hrd hk) (by omega) (by omega) (growslice_fits (by omega) hbytes)
      rw [hrun] at hr
      cases hr
      rfl
theorem wappW {A : Option Addr} (E : Elt S e k) (hs : a.eval s = v) (hx : a.eval x = .slice A m c) (h0 : A = none → m = 0 ∧ c = 0) (hown : Own e k w B v l) (hrd : Nums k w B' A kk) (hk : kk.length = m) (hsz : l.length + m ≤ 1000000) (hB : B ≤ w.heap.size)
    (h : ∀ v' w', Own e k w' B v' (l ++ kk) → w.grownBy w' v.ownBlock → (v'.ownBlock = v.ownBlock ∨ v'.ownBlock = some w.heap.size) → wpList Try.prog ops Q rest (a.put dst v') w') :
    wpList Try.prog ops Q (⟨dst, .call { callee := .builtin .append, args := #[s, x], argTypes := #[S, S] }, ty, pos, after, none⟩ :: rest) a w := by
  cases A with
  | some ad =>
    obtain ⟨v', w', hr, h1, h2⟩ := run_appN (ty := ty) (c := c) E hown hrd hk hsz hB
    have h3 := run_appN_where E hown hrd hk hsz hr
    refine wpList_plain rfl fun K hK => ?_
    unfold Oper.wp execOp
    simp only [resolve, invoke, builtin, Sem.run_bind, Sem.run_pure, Result.andThen_ok, List.map_toArray, List.map_cons, List.map_nil, hs, hx, hr]
    exact hK _ _ (h v' w' h1 h2 h3)
  | none =>
    obtain ⟨rfl, rfl⟩ := h0 rfl
    obtain rfl := List.eq_nil_of_length_eq_zero hk
    rw [List.append_nil] at h
    exact wappN_none E hs hx hown (h v w hown ⟨rfl, rfl, rfl, Nat.le_refl _, fun _ _ _ => rfl⟩ (.inl rfl))
end
theorem Own.lower {e : TypeId} {k : IntKind} {w : World} {B B' : Nat} {v : Value} {l : List Nat} (h : Own e k w B v l) (hB : B' ≤ B) : Own e k w B' v l := by
  refine ⟨h.1, ?_⟩
  rcases h.2 with h' | ⟨g, cap, cur, hv, hb, hr⟩
  · exact .inl h'
  · exact .inr ⟨g, cap, cur, hv, Nat.le_trans hB hb, hr⟩
/-- They lie in rows of their own. -/
def Apart (v u : Value) : Prop := ∀ g, v.ownBlock = some g → u.ownBlock ≠ some g
theorem Apart.symm {v u : Value} (h : Apart v u) : Apart u v := fun g hu hv => h g hv hu
theorem Apart.nil (v : Value) : Apart v (.slice none 0 0) := fun g _ h => by cases h
theorem Own.keep {e : TypeId} {k : IntKind} {w w' : World} {B : Nat} {v u : Value} {l : List Nat} (h : Own e k w B v l) (hg : w.grownBy w' u.ownBlock) (hne : Apart v u) : Own e k w' B v l := by
  refine World.ownsRow.kept h hg ?_
  cases hv : v.ownBlock with
  | none => exact .inl rfl
  | some g => exact .inr (Ne.symm (hne g hv))
theorem Apart.app {e : TypeId} {k : IntKind} {w : World} {B : Nat} {v v' u : Value} {l : List Nat} (h : Apart v u) (hv : Own e k w B v l) (hw : v'.ownBlock = u.ownBlock ∨ v'.ownBlock = some w.heap.size) : Apart v v' := fun g hg => by
  rcases hw with hw | hw
  · rw [hw]; exact h g hg
  · rw [hw]
    intro e'
    have := (World.ownsRow.lt hv g hg).2
    rw [Option.some.inj e'] at this
    exact Nat.lt_irrefl _ this
theorem Blk.apart {w w' : World} {g : Nat} {t : TypeId} {cs : Array Value} {v : Value} (h : Blk w g t cs) (hg : w.grownBy w' v.ownBlock) (hne : v.ownBlock ≠ some g) : Blk w' g t cs :=
  (hg.block g h.lt fun e => hne e.symm).trans h
end Go.Proofs.Ytlbfjnddbdpdpaa
set_option maxRecDepth 100000
namespace Go.Proofs.Ytlbfjnddbdpdpaa
open Go.ChangeShapes Go.WideShapes Go.ChangeAt Go.RowKit
section
variable {a : Act} {w : World} {dst : Option Tmp} {ty : TypeId} {pos : String} {after : Array Edge} {gd : Option (Nat × Bool)} {s x : Operand} {m c B B' : Nat} {v : Value} {l kk : List Nat} {S e : TypeId} {k : IntKind} {ad : Addr}
/-- The slice ahead still holds its numbers, whether the append went into its row or into a new one. -/
theorem run_appN_old (E : Elt S e k) (hown : Own e k w B v l) (hrd : Nums k w B' (some ad) kk) (hk : kk.length = m) (hsz : l.length + m ≤ 1000000) {v' : Value} {w' : World}
    (hr : (Builtin.append_ #[S, S] ty #[v, .slice (some ad) m c]).run Try.prog w = .ok v' w') (hown' : Own e k w' B v' (l ++ kk)) : Own e k w' B v l := by
  obtain ⟨i, hi, hz, h1, h2⟩ := E.inf
  have hbytes : (l.length + m) * i.bytes ≤ 140737488355328 := Nat.le_trans (Nat.mul_le_mul hsz h2) (by omega)
  have hl1 : (nums k kk).length = m * i.size := by rw [nums_length, h1, Nat.mul_one, hk]
  rcases hown.2 with ⟨rfl, h0⟩ | ⟨g, cap, cur, rfl, hB, hg, hnc, hcm, hcs, ht⟩
  · rw [List.eq_nil_of_length_eq_zero h0]
    exact Own.nil
  · rw [Nat.mul_one] at hcs ht
    by_cases hroom : l.length + m ≤ cap
    · have hrun := run_append_room (P := Try.prog) w S ty e i E.und hi g l.length cap cur hg ad m c (nums k kk) hl1 (nums_reads hrd hk) (nums_oneCell kk) hroom (by rw [h1, Nat.mul_one, nums_length, hcs]; omega)
      rw [hrun] at hr
      cases hr
      rcases hown'.2 with ⟨e', _⟩ | ⟨g2, cap2, cur2, hv2, hB2, hg2, hnc2, hcm2, hcs2, ht2⟩
      · cases e'
      · simp only [Value.slice.injEq, Option.some.injEq, Addr.mk.injEq, and_true] at hv2
        obtain ⟨rfl, _, rfl⟩ := hv2
        refine ⟨hown.1, .inr ⟨_, _, cur2, rfl, hB, hg2, hnc, hcm, hcs2, ?_⟩⟩
        rw [Nat.mul_one] at ht2 ⊢
        have h3 : (cur2.toList.take (l ++ kk).length).take l.length = (nums k (l ++ kk)).take l.length := by rw [ht2]
        rw [List.take_take, Nat.min_eq_left (by rw [List.length_append]; omega), nums_append, List.take_left' (nums_length k l)] at h3
        exact h3
    · have holds : ∀ j u, (nums k l)[j]? = some u → w.cell? ((⟨g, 0, none⟩ : Addr).add j) = some u := hown.cells (g := g) rfl
      have hrun := run_append_grow (P := Try.prog) w S ty e i (.int k 0) E.und hi hz ⟨g, 0, none⟩ l.length cap (nums k l) (by rw [nums_length, h1, Nat.mul_one]) holds ad m c (nums k kk) hl1 (nums_reads hrd hk) (by omega) (by omega) (growslice_fits (by omega) hbytes)
      rw [hrun] at hr
      cases hr
      exact hown.alloc _
/-- An append, in a region that draws its order. -/
theorem gives_app {A : Option Addr} (E : Elt S e k) (hs : a.eval s = v) (hx : a.eval x = .slice A m c) (h0 : A = none → m = 0 ∧ c = 0) (hown : Own e k w B v l) (hrd : Nums k w B' A kk) (hk : kk.length = m) (hsz : l.length + m ≤ 1000000) (hB : B ≤ w.heap.size) :
    ∃ v' w', Own e k w' B v' (l ++ kk) ∧ Own e k w' B v l ∧ w.grownBy w' v.ownBlock ∧ (v'.ownBlock = v.ownBlock ∨ v'.ownBlock = some w.heap.size) ∧
      ∀ R : World → Prop, R w' → Gives Try.prog ⟨dst, .call { callee := .builtin .append, args := #[s, x], argTypes := #[S, S] }, ty, pos, after, gd⟩ a w v' R := by
  cases A with
  | some ad =>
    obtain ⟨v', w', hr, h1, h2⟩ := run_appN (ty := ty) (c := c) E hown hrd hk hsz hB
    refine ⟨v', w', h1, run_appN_old E hown hrd hk hsz hr h1, h2, run_appN_where E hown hrd hk hsz hr, fun R hR => gives_value ?_ hR⟩
    unfold execOp
    simp only [resolve, invoke, builtin, Sem.run_bind, Sem.run_pure, Result.andThen_ok, List.map_toArray, List.map_cons, List.map_nil, hs, hx, hr]
  | none =>
    obtain ⟨rfl, rfl⟩ := h0 rfl
    obtain rfl := List.eq_nil_of_length_eq_zero hk
    refine ⟨v, w, by rw [List.append_nil]; exact hown, hown, ⟨rfl, rfl, rfl, Nat.le_refl _, fun _ _ _ => rfl⟩, .inl rfl, fun R hR => gives_value ?_ hR⟩
    have hr : (Builtin.append_ #[S, S] ty #[v, .slice none 0 0]).run Try.prog w = .ok v w := by
      obtain ⟨i, hi, hz, h1, h2⟩ := E.inf
      exact run_append_owned_none (P := Try.prog) w B S ty e i 1 E.und hi v l.length _ hown
    unfold execOp
    simp only [resolve, invoke, builtin, Sem.run_bind, Sem.run_pure, Result.andThen_ok, List.map_toArray, List.map_cons, List.map_nil, hs, hx, hr]
theorem gives_appS {A : Option Addr} {T : Value → Prop} {R : Value → World → Prop} (E : Elt S e k) (hs : a.eval s = v) (hx : a.eval x = .slice A m c) (h0 : A = none → m = 0 ∧ c = 0) (hown : Own e k w B v l) (hrd : Nums k w B' A kk) (hk : kk.length = m) (hsz : l.length + m ≤ 1000000) (hB : B ≤ w.heap.size)
    (h : ∀ v' w', Own e k w' B v' (l ++ kk) → Own e k w' B v l → w.grownBy w' v.ownBlock → T v' ∧ R v' w') :
    ∃ v', T v' ∧ Gives Try.prog ⟨dst, .call { callee := .builtin .append, args := #[s, x], argTypes := #[S, S] }, ty, pos, after, gd⟩ a w v' (R v') := by
  obtain ⟨v', w', h1, h2, h3, _, h5⟩ := gives_app (dst := dst) (ty := ty) (pos := pos) (after := after) (gd := gd) E hs hx h0 hown hrd hk hsz hB
  obtain ⟨h6, h7⟩ := h v' w' h1 h2 h3
  exact ⟨v', h6, h5 _ h7⟩
end
end Go.Proofs.Ytlbfjnddbdpdpaa
set_option maxRecDepth 100000
namespace Go.Proofs.Ytlbfjnddbdpdpaa
open Go.ChangeShapes Go.WideShapes Go.ChangeAt Go.RowKit
/-- An append to a slice leaves any other slice of the call's own that is no longer as it was, even in the same row. -/
theorem Own.beside {e : TypeId} {k : IntKind} {w w' : World} {B B2 : Nat} {v u : Value} {l m : List Nat} (h : Own e k w B v l) (hu : Own e k w B2 u m) (hg : w.grownBy w' u.ownBlock) (hu' : Own e k w' B2 u m) (hlm : l.length ≤ m.length) : Own e k w' B v l := by
  by_cases hne : Apart v u
  · exact h.keep hg hne
  · rcases h.2 with ⟨rfl, h0⟩ | ⟨g, cap, cur, rfl, hB, hgc, hnc, hcm, hcs, ht⟩
    · rw [List.eq_nil_of_length_eq_zero h0]
      exact Own.nil
    · rcases hu.2 with ⟨rfl, _⟩ | ⟨g2, cap2, cur2, rfl, hB2, hgc2, hnc2, hcm2, hcs2, ht2⟩
      · exact absurd (Apart.nil _) hne
      · have hgg : g2 = g := by
          by_cases e' : g2 = g
          · exact e'
          · exact absurd (fun x hx hx2 => e' (by
              have h1 : g = x := Option.some.inj hx
              have h2 : g2 = x := Option.some.inj hx2
              rw [h1, h2])) hne
        subst hgg
        rw [hgc] at hgc2
        cases hgc2
        rcases hu'.2 with ⟨e', _⟩ | ⟨g3, cap3, cur3, hv3, hB3, hgc3, hnc3, hcm3, hcs3, ht3⟩
        · cases e'
        · simp only [Value.slice.injEq, Option.some.injEq, Addr.mk.injEq, and_true] at hv3
          obtain ⟨rfl, _, rfl⟩ := hv3
          have hcap : cap2 = cap := by omega
          subst hcap
          refine ⟨h.1, .inr ⟨_, _, cur3, rfl, hB, hgc3, hnc, hcm, hcs3, ?_⟩⟩
          rw [Nat.mul_one] at ht ht2 ht3 ⊢
          have h3 : (cur3.toList.take m.length).take l.length = (cur.toList.take m.length).take l.length := by rw [ht3, ht2]
          rw [List.take_take, List.take_take, Nat.min_eq_left hlm, ht] at h3
          exact h3
section
variable {P : Program} {ops : Array Oper}
theorem wp_region_rel2 {id : Nat} {Q : Exit → Act → World → Prop} {C : World → Prop} {S : Nat → Value → Prop} {D : Nat → (Nat → Value) → World → Prop} {K : Nat → (Nat → Value) → World → World → Prop} {a : Act} {w : World} {l : List Oper} (n : Nat)
    (hm : P.follows .mixedOrders = true) (ht : tidy l.toArray = true) (hB : tailB l.toArray n = true)
    (v0 : Nat → Value) (h0 : ∀ j, S j (v0 j)) (hD : ∀ i j vs w w', i < n → j ≠ i → Region.waitsFor .any l.toArray j i = false → D j vs w → K i vs w w' → D j vs w')
    (hL : ∀ j i vs v w, j ≠ i → Region.waitsFor .any l.toArray j i = false → D j vs w → D j (updV vs i v) w)
    (hC : C w.drew)
    (h : ∀ vs : Nat → Value, wpR P l.toArray S D K C (fun vs a' => ∀ w', C w' → (∀ k, k < n → D k vs w') → wpList P l.toArray Q (l.drop n) a' w') 0 vs (l.take n) a) : (Code.region id l.toArray true).wp P Q a w := by
  refine region_core (Γ := {vs : Nat → Value // ∀ j, S j (vs j)}) (C := fun γ L w' => C w' ∧ Closed l.toArray L ∧ ∀ k, k < n → L.getD k false = true → D k γ.1 w') n hm ht hB ⟨v0, h0⟩
    ⟨hC, (fun j o _ hl => by rw [getD_replicate_false] at hl; cases hl), fun k _ hk => by rw [getD_replicate_false] at hk; cases hk⟩ (fun γ => γ.1) ?_ ?_
  · intro i o hi γ L w' hsz hr ⟨hC', hcl, hDs⟩
    have hin : i < n := by
      have := (List.getElem?_eq_some_iff.1 hi).1
      rw [List.length_take] at this; omega
    have hun := getD_both (mem_ready.1 hr).1
    have hcl2 := closed_set hcl hr
    have key := (wpR_at γ.2 (l.take n) 0 a (h γ.1)).2 i o hi
    simp only [Nat.zero_add] at key
    have hwait : ∀ j, Region.waitsFor .any l.toArray i j = true → D j γ.1 w' := fun j hj => by
      have h1 := waits_ready hr hj
      have hji : j < i := by
        obtain ⟨o2, ho2, e2, he2, hb2, hon⟩ := Region.waitsFor_spec hj
        have := tidy_edge ht ho2 e2 he2 hb2
        omega
      exact hDs j (by omega) h1
    have step : ∀ (v : Value) (w2 : World), C w2 → (w2 = w' ∨ K i γ.1 w' w2) → D i (updV γ.1 i v) w2 →
        C w2 ∧ Closed l.toArray (L.setIfInBounds i true) ∧ ∀ k, k < n → (L.setIfInBounds i true).getD k false = true → D k (updV γ.1 i v) w2 := fun v w2 hc hb hd => by
      refine ⟨hc, hcl2, fun k hk hL' => ?_⟩
      by_cases e : k = i
      · subst e; exact hd
      · rw [getD_set_ne false (Ne.symm e)] at hL'
        have hw : Region.waitsFor .any l.toArray k i = false := by
          cases hx : Region.waitsFor .any l.toArray k i with
          | false => rfl
          | true =>
            have := waits_closed hcl hL' hx
            rw [hun] at this
            cases this
        refine hL k i _ v _ e hw ?_
        rcases hb with rfl | hb
        · exact hDs k hk hL'
        · exact hD i k _ _ _ hin e hw (hDs k hk hL') hb
    have upd : ∀ v, S i v → ∀ j, S j (updV γ.1 i v j) := fun v hv j => by
      by_cases e : j = i
      · subst e; rw [updV_self]; exact hv
      · rw [updV_ne _ _ e]; exact γ.2 j
    have keep : ∀ v j, L.getD j false = true → γ.1 j = updV γ.1 i v j := fun v j hj => by
      have : j ≠ i := fun e => by subst e; rw [hun] at hj; cases hj
      rw [updV_ne _ _ this]
    rcases key with ⟨k1, k2⟩ | ⟨k1, k2, k3⟩
    · obtain ⟨v, hv, hg⟩ := k2 w' hC' hwait
      refine ⟨⟨updV γ.1 i v, upd v hv⟩, keep v, .inl ⟨k1, ?_⟩⟩
      simp only [updV_self]
      exact gives_mono hg fun w2 ⟨h1, h2, h3⟩ => step v w2 h1 (.inr h2) h3
    · exact ⟨⟨updV γ.1 i undef, upd undef k2⟩, keep undef, .inr ⟨k1, updV_self _ _ _, step undef w' hC' (.inl rfl) (k3 w')⟩⟩
  · intro γ L w' hall ⟨hC', _, hDs⟩
    have key := (wpR_at γ.2 (l.take n) 0 a (h γ.1)).1
    have ez : (fun i => γ.1 (0 + i)) = γ.1 := funext fun i => by rw [Nat.zero_add]
    rw [ez] at key
    exact key w' hC' fun k hk => hDs k hk (hall k hk)
end
end Go.Proofs.Ytlbfjnddbdpdpaa
set_option maxRecDepth 100000
namespace Go.Proofs.Ytlbfjnddbdpdpaa
section
variable {P : Program} {ops : Array Oper}
def upB (d : Nat → Bool) (k : Nat) : Nat → Bool := fun j => if j = k then true else d j
/-- The operations in the order of the text, the k-th first; st tells which of them write. -/
def wpM (P : Program) (ops : Array Oper) (st : Nat → Bool) (D : (Nat → Bool) → World → Prop) (Q : Act → Prop) : Nat → List Oper → Act → Prop
  | _, [], a => Q a
  | k, o :: rest, a => ∃ v, ((Region.wanted o (yielded ops a.tmps) = true ∧ ((st k = true ∧ ∀ d w, d k = false → D d w → Gives P o a w v (D (upB d k))) ∨ (st k = false ∧ ∀ d w, D d w → Gives P o a w v (D d)))) ∨
      (Region.wanted o (yielded ops a.tmps) = false ∧ st k = false ∧ v = undef)) ∧ wpM P ops st D Q (k + 1) rest (a.put o.dst v)
section
variable {D : (Nat → Bool) → World → Prop} {Qk : Act → Prop} {o : Oper} {rest : List Oper} {a : Act} {v : Value} {k : Nat} {st : Nat → Bool}
theorem wpM_nil (h : Qk a) : wpM P ops st D Qk k [] a := h
theorem wpM_val (hk : st k = false) (hw : Region.wanted o (yielded ops a.tmps) = true) (h1 : ∀ d w, D d w → Gives P o a w v (D d)) (h2 : wpM P ops st D Qk (k + 1) rest (a.put o.dst v)) : wpM P ops st D Qk k (o :: rest) a :=
  ⟨v, .inl ⟨hw, .inr ⟨hk, h1⟩⟩, h2⟩
theorem wpM_put (hk : st k = true) (hw : Region.wanted o (yielded ops a.tmps) = true) (h1 : ∀ d w, d k = false → D d w → Gives P o a w v (D (upB d k))) (h2 : wpM P ops st D Qk (k + 1) rest (a.put o.dst v)) : wpM P ops st D Qk k (o :: rest) a :=
  ⟨v, .inl ⟨hw, .inl ⟨hk, h1⟩⟩, h2⟩
end
theorem wpM_vals {st : Nat → Bool} {D : (Nat → Bool) → World → Prop} {Qk : Act → Prop} : ∀ (l : List Oper) (k : Nat) (a : Act), wpM P ops st D Qk k l a → ∃ vals : Nat → Value, Qk (lexF l vals l.length a) ∧
    ∀ i o, l[i]? = some o → ((Region.wanted o (yielded ops (lexF l vals i a).tmps) = true ∧ ((st (k + i) = true ∧ ∀ d w, d (k + i) = false → D d w → Gives P o (lexF l vals i a) w (vals i) (D (upB d (k + i)))) ∨ (st (k + i) = false ∧ ∀ d w, D d w → Gives P o (lexF l vals i a) w (vals i) (D d)))) ∨
      (Region.wanted o (yielded ops (lexF l vals i a).tmps) = false ∧ st (k + i) = false ∧ vals i = undef))
  | [], _, a, h => ⟨fun _ => undef, h, fun i o hi => by simp at hi⟩
  | o :: l, k, a, h => by
    obtain ⟨v, h1, h2⟩ := h
    obtain ⟨vals, hq, hs⟩ := wpM_vals l (k + 1) _ h2
    refine ⟨fun j => match j with | 0 => v | j + 1 => vals j, ?_, fun i o' hi => ?_⟩
    · rw [List.length_cons, lexF_cons]; exact hq
    · cases i with
      | zero =>
        simp only [List.getElem?_cons_zero, Option.some.injEq] at hi
        subst hi
        exact h1
      | succ i =>
        rw [lexF_cons, show k + (i + 1) = k + 1 + i by omega]
        exact hs i o' (by simpa using hi)
theorem gives_imp {o : Oper} {a : Act} {w : World} {v : Value} {R R' : World → Prop} (h : Gives P o a w v R) (hr : ∀ w', R w' → R' w') : Gives P o a w v R' := by
  unfold Gives at *
  generalize (execOp a.eval o).run P w = r at *
  cases r with
  | ok n w' =>
    cases n <;> simp only at h ⊢
    case value u => exact ⟨h.1, hr _ h.2⟩
    case skip => exact ⟨h.1, hr _ h.2⟩
    case enter f args => exact h.mono fun e w'' ⟨he, hR⟩ => ⟨he, hr _ hR⟩
  | halt x w' => exact h
theorem wp_region_set {id : Nat} {Q : Exit → Act → World → Prop} {D : (Nat → Bool) → World → Prop} {a : Act} {w : World} {l : List Oper} (st : Nat → Bool) (n : Nat) (hst : ∀ j, st j = true → j < n) (hm : P.follows .mixedOrders = true) (ht : tidy l.toArray = true) (hB : tailB l.toArray n = true)
    (hirr : ∀ d d' w, (∀ j, st j = true → d j = d' j) → D d w → D d' w) (hC : D (fun _ => false) w.drew)
    (h : wpM P l.toArray st D (fun a' => ∀ w', D (fun _ => true) w' → wpList P l.toArray Q (l.drop n) a' w') 0 (l.take n) a) : (Code.region id l.toArray true).wp P Q a w := by
  obtain ⟨vals, hq, hs⟩ := wpM_vals _ _ _ h
  refine region_core (Γ := Unit) (C := fun _ L w => D (fun j => L.getD j false) w) n hm ht hB () (hirr _ _ _ (fun j _ => (getD_replicate_false _ j).symm) hC) (fun _ => vals) (fun i o hi γ L w hsz hr hC' => ⟨(), fun _ _ => rfl, ?_⟩)
    (fun _ L w' hall hC' => hq w' (hirr _ _ _ (fun j hj => hall j (hst j hj)) hC'))
  have hun := getD_both (mem_ready.1 hr).1
  have hlt : i < L.size := by
    obtain ⟨o', ho', _⟩ := (mem_ready.1 hr).2
    have := (Array.getElem?_eq_some_iff.1 ho').1
    simp at this; omega
  rcases hs i o hi with ⟨h1, ⟨h2, h3⟩ | ⟨h2, h3⟩⟩ | ⟨h1, h2, h3⟩
  · rw [Nat.zero_add] at h2 h3
    refine .inl ⟨h1, gives_imp (h3 _ w hun hC') fun w' hw' => hirr _ _ _ (fun j _ => ?_) hw'⟩
    unfold upB
    by_cases e : j = i
    · subst e; rw [if_pos rfl]; simp [hlt]
    · rw [if_neg e, getD_set_ne false (Ne.symm e)]
  · rw [Nat.zero_add] at h2
    refine .inl ⟨h1, gives_imp (h3 _ w hC') fun w' hw' => hirr _ _ _ (fun j hj => ?_) hw'⟩
    have e : j ≠ i := fun e => by subst e; rw [h2] at hj; cases hj
    rw [getD_set_ne false (Ne.symm e)]
  · rw [Nat.zero_add] at h2
    refine .inr ⟨h1, h3, hirr _ _ _ (fun j hj => ?_) hC'⟩
    have e : j ≠ i := fun e => by subst e; rw [h2] at hj; cases hj
    rw [getD_set_ne false (Ne.symm e)]
end
end Go.Proofs.Ytlbfjnddbdpdpaa
set_option maxRecDepth 100000
namespace Go.Proofs.Ytlbfjnddbdpdpaa
open Go.RowKit
/-- One operation, carried out in the world w; R holds of what it yields and of the world behind it. -/
def GivesE (P : Program) (o : Oper) (a : Act) (w : World) (R : Value → World → Prop) : Prop :=
  match (execOp a.eval o).run P w with
  | .ok (.value u) w' => R u w'
  | .ok .skip w' => R undef w'
  | .ok (.enter f args) w' => Calls P f args w' fun e w'' => ∃ v, e = .returned v ∧ R v w''
  | _ => False
theorem wp_of_givesE {P : Program} {o : Oper} {a : Act} {w : World} {R : Value → World → Prop} {K : Act → World → Prop} {Q : Exit → Act → World → Prop}
    (h : GivesE P o a w R) (hK : ∀ v w', R v w' → K (a.put o.dst v) w') : o.wp P a w K Q := by
  unfold GivesE at h
  unfold Oper.wp
  generalize (execOp a.eval o).run P w = r at *
  cases r with
  | ok n w' =>
    cases n <;> simp only at h <;> simp only [Oper.upon]
    case value u => exact hK _ _ h
    case skip => exact hK _ _ h
    case enter f args => exact h.mono fun e w'' ⟨v, he, hr⟩ => by subst he; exact hK _ _ hr
  | halt x w' => cases h
theorem givesE_mono {P : Program} {o : Oper} {a : Act} {w : World} {R R' : Value → World → Prop} (h : GivesE P o a w R) (hr : ∀ v w', R v w' → R' v w') : GivesE P o a w R' := by
  unfold GivesE at *
  generalize (execOp a.eval o).run P w = r at *
  cases r with
  | ok n w' =>
    cases n <;> simp only at h ⊢
    case value u => exact hr _ _ h
    case skip => exact hr _ _ h
    case enter f args => exact h.mono fun e w'' ⟨v, he, hR⟩ => ⟨v, he, hr _ _ hR⟩
  | halt x w' => exact h
section
variable {P : Program} {ops : Array Oper}
/-- The head of a region: the first n operations, in whatever order; behind them the tail. -/
theorem head_anyE {Γ : Type} {n g : Nat} {Q : Exit → Act → World → Prop} {vals : Γ → Nat → Value} {C : Γ → Array Bool → World → Prop} {a0 : Act} (ht : tidy ops = true) (hn : n ≤ ops.size)
    (hstep : ∀ k o, k < n → ops[k]? = some o → ∀ γ L w, L.size = ops.size → Closed ops L → k ∈ Region.ready .any ops L → C γ L w →
      ((Region.wanted o (yielded ops (fr ops (vals γ) (fun j => decide (j < k)) ops.size a0).tmps) = true ∧ GivesE P o (fr ops (vals γ) (fun j => decide (j < k)) ops.size a0) w (fun v w' => ∃ γ', (∀ j, L.getD j false = true → vals γ j = vals γ' j) ∧ vals γ' k = v ∧ C γ' (L.setIfInBounds k true) w')) ∨
      (Region.wanted o (yielded ops (fr ops (vals γ) (fun j => decide (j < k)) ops.size a0).tmps) = false ∧ ∃ γ', (∀ j, L.getD j false = true → vals γ j = vals γ' j) ∧ vals γ' k = undef ∧ C γ' (L.setIfInBounds k true) w)))
    (hsink : ∀ L, L.size = ops.size → Closed ops L → (∀ t, n ≤ t → t < ops.size → L.getD t true = false) → ∀ i, i < n → L.getD i true = false → ∀ t ∈ Region.ready .any ops L, t < n)
    (htail : ∀ γ L w, L.size = ops.size → (∀ i, i < n → L.getD i false = true) → (∀ t, n ≤ t → t < ops.size → L.getD t true = false) → C γ L w →
      wpAny P .any ops Q g L (fr ops (vals γ) (fun j => decide (j < n)) ops.size a0) w) :
    ∀ (f : Nat) (γ : Γ) (L : Array Bool) (w : World), L.size = ops.size → Closed ops L → (∀ t, n ≤ t → t < ops.size → L.getD t true = false) → cnt n L = f → C γ L w →
      wpAny P .any ops Q (f + g) L (fr ops (vals γ) (fun j => L.getD j false) ops.size a0) w
  | 0, γ, L, w, hs, hcl, htl, hc, hC => by
    have hall : ∀ i, i < n → L.getD i false = true := fun i hi => by
      have h1 : ∀ j ∈ List.range n, ¬ (!L.getD j true) = true := List.countP_eq_zero.1 hc
      have h2 := h1 i (List.mem_range.2 hi)
      exact getD_up (by omega) (by simpa using h2)
    rw [Nat.zero_add, fr_congr (l' := fun j => decide (j < n)) fun j hj => ?_]
    · exact htail γ L w hs hall htl hC
    · by_cases hjn : j < n
      · rw [hall j hjn]; simp [hjn]
      · rw [getD_both (htl j (by omega) hj)]; simp [hjn]
  | f + 1, γ, L, w, hs, hcl, htl, hc, hC => by
    rw [show f + 1 + g = (f + g) + 1 by omega]
    -- the least that has not come up may come up
    have hex : ∃ i, i < n ∧ L.getD i true = false := by
      have hpos : 0 < (List.range n).countP fun i => !L.getD i true := by unfold cnt at hc; omega
      obtain ⟨i, hi, h1⟩ := List.countP_pos_iff.1 hpos
      exact ⟨i, List.mem_range.1 hi, by simpa using h1⟩
    have hready : ∃ i, i ∈ Region.ready .any ops L := by
      obtain ⟨i, hi, hun⟩ := hex
      induction i using Nat.strongRecOn with
      | _ i ih =>
        by_cases hless : ∃ j, j < i ∧ L.getD j true = false
        · obtain ⟨j, hj, hjun⟩ := hless
          exact ih j hj (by omega) hjun
        · have hio : i < ops.size := by omega
          refine ⟨i, mem_ready.2 ⟨hun, ops[i], Array.getElem?_eq_getElem hio, fun e he hb => ?_⟩⟩
          have hlt := tidy_edge ht (Array.getElem?_eq_getElem hio) e he hb
          refine getD_up (by omega) ?_
          cases h0 : L.getD e.on true with
          | true => rfl
          | false => exact absurd ⟨e.on, hlt, h0⟩ hless
    obtain ⟨i0, hi0, hun0⟩ := hex
    refine ⟨fun h0 => (by obtain ⟨i, hi⟩ := hready; rw [h0] at hi; cases hi), fun i hi => ?_⟩
    have hin : i < n := hsink L hs hcl htl i0 hi0 hun0 i hi
    obtain ⟨hun, o, ho, _⟩ := mem_ready.1 hi
    have hio : i < ops.size := by omega
    obtain ⟨hex1, hex2⟩ := exec_same (vals := vals γ) (n := ops.size) (a := a0) ht ho hcl hi
    have hst := hstep i o hin ho γ L w hs hcl hi hC
    have hnext : ∀ γ' w', (∀ j, L.getD j false = true → vals γ j = vals γ' j) → C γ' (L.setIfInBounds i true) w' → wpAny P .any ops Q (f + g) (L.setIfInBounds i true) ((fr ops (vals γ) (fun j => L.getD j false) ops.size a0).put o.dst (vals γ' i)) w' := fun γ' w' hag hC' => by
      have ih := head_anyE (g := g) (Q := Q) ht hn hstep hsink htail f γ' (L.setIfInBounds i true) w' (by simpa using hs) (closed_set hcl hi) (fun t h1 h2 => by rw [getD_set_ne true (by omega)]; exact htl t h1 h2)
        (by
          have h1 : cnt n (L.setIfInBounds i true) + 1 = cnt n L := by
            refine countP_one (i := i) (by simpa using hun) ?_ (fun j hj => by rw [getD_set_ne true (Ne.symm hj)]) List.nodup_range (List.mem_range.2 hin)
            simp [show i < L.size by omega]
          omega) hC'
      rw [fr_congr (l' := fun j => L.getD j false || j == i) fun j _ => ?_, fr_set ht (getD_both hun) hio, ← fr_vals fun j _ hj => hag j hj] at ih
      · unfold dstAt at ih; rw [ho] at ih; exact ih
      · by_cases e : j = i
        · subst e; simp [show j < L.size by omega]
        · have : (j == i) = false := by simpa using e
          rw [getD_set_ne false (Ne.symm e), this, Bool.or_false]
    unfold wpOp
    simp only [ho]
    rcases hst with ⟨hw, hg⟩ | ⟨hw, γ', hag, hv, hC'⟩
    · rw [hex2, if_pos hw]
      refine .inl (wp_of_givesE (R := fun v w' => ∃ γ', (∀ j, L.getD j false = true → vals γ j = vals γ' j) ∧ vals γ' i = v ∧ C γ' (L.setIfInBounds i true) w') ?_ fun v w' ⟨γ', hag, hv, hC'⟩ => by rw [← hv]; exact hnext γ' w' hag hC')
      unfold GivesE at hg ⊢
      rw [hex1]; exact hg
    · rw [hex2, hw, if_neg (by simp)]
      rw [← hv]
      exact hnext γ' w hag hC'

theorem region_coreE {id : Nat} {Q : Exit → Act → World → Prop} {Γ : Type} {C : Γ → Array Bool → World → Prop} {a : Act} {w : World} {l : List Oper} (n : Nat) (hm : P.follows .mixedOrders = true) (ht : tidy l.toArray = true) (hB : tailB l.toArray n = true)
    (γ0 : Γ) (hC : C γ0 (Array.replicate l.length false) w.drew) (vals : Γ → Nat → Value)
    (hs : ∀ i o, (l.take n)[i]? = some o → ∀ γ L w, L.size = l.length → i ∈ Region.ready .any l.toArray L → C γ L w →
      ((Region.wanted o (yielded l.toArray (lexF (l.take n) (vals γ) i a).tmps) = true ∧ GivesE P o (lexF (l.take n) (vals γ) i a) w (fun v w' => ∃ γ', (∀ j, L.getD j false = true → vals γ j = vals γ' j) ∧ vals γ' i = v ∧ C γ' (L.setIfInBounds i true) w')) ∨
      (Region.wanted o (yielded l.toArray (lexF (l.take n) (vals γ) i a).tmps) = false ∧ ∃ γ', (∀ j, L.getD j false = true → vals γ j = vals γ' j) ∧ vals γ' i = undef ∧ C γ' (L.setIfInBounds i true) w)))
    (hq : ∀ γ L w', (∀ i, i < n → L.getD i false = true) → C γ L w' → wpList P l.toArray Q (l.drop n) (lexF (l.take n) (vals γ) (l.take n).length a) w') : (Code.region id l.toArray true).wp P Q a w := by
  refine wp_region_any hm ?_
  have hn : n ≤ l.toArray.size := by
    simp only [tailB, Bool.or_eq_true, Bool.and_eq_true, decide_eq_true_eq] at hB
    rcases hB with h | h <;> omega
  have hlen : (l.take n).length = n := by rw [List.length_take]; simp at hn; omega
  simp only [hlen] at hq
  have hfr : ∀ (γ : Γ) i, i ≤ n → lexF (l.take n) (vals γ) i a = fr l.toArray (vals γ) (fun j => decide (j < i)) l.toArray.size a := fun γ i hi => by
    have := lexF_fr (ops := l.toArray) (vals := vals γ) (a := a) hn i hi
    simpa using this
  have H := head_anyE (P := P) (ops := l.toArray) (n := n) (g := l.toArray.size - n) (Q := Q) (vals := vals) (C := C) (a0 := a) ht hn
    (fun k o hk ho γ L w' hsz _ hr hC' => by
      have hko : (l.take n)[k]? = some o := by rw [List.getElem?_take_of_lt hk]; simpa using ho
      have := hs k o hko γ L w' (by simpa using hsz) hr hC'
      rwa [hfr γ k (by omega)] at this)
    (fun L hL hcl htl i hi hun t hr => by
      obtain ⟨hunt, o, ho, _⟩ := mem_ready.1 hr
      have hto : t < l.toArray.size := (Array.getElem?_eq_some_iff.1 ho).1
      simp only [tailB, Bool.or_eq_true, Bool.and_eq_true, decide_eq_true_eq] at hB
      rcases hB with hB | ⟨⟨⟨hB1, hB2⟩, hB3⟩, _⟩
      · omega
      · rcases Nat.lt_or_ge t n with h | h
        · exact h
        · exact absurd hr (tail_waits hB2 hB3 hB1 ⟨hL, hcl, htl⟩ _ i rfl hi hun t h))
    (fun γ L w' hL hall htl hC' => by
      rw [← hfr γ n (Nat.le_refl n)]
      have hlist := hq γ L w' hall hC'
      have hLe : L = tailL n (l.toArray.size - n) := by
        apply Array.ext_getElem?
        intro j
        unfold tailL
        rw [show ((List.replicate n true ++ List.replicate (l.toArray.size - n) false).toArray)[j]? = (List.replicate n true ++ List.replicate (l.toArray.size - n) false)[j]? from List.getElem?_toArray .., List.getElem?_append]
        simp only [List.length_replicate]
        by_cases hj : j < n
        · have := hall j hj
          rw [if_pos hj]
          simp [show j < L.size by omega] at this
          simp [hj, show j < L.size by omega, this]
        · rw [if_neg hj]
          by_cases hj2 : j < l.toArray.size
          · have := htl j (by omega) hj2
            simp [show j < L.size by omega] at this
            rw [Array.getElem?_eq_getElem (by omega), this, List.getElem?_replicate, if_pos (by omega)]
          · rw [Array.getElem?_eq_none (by omega), List.getElem?_replicate, if_neg (by omega)]
      simp only [tailB, Bool.or_eq_true, Bool.and_eq_true, decide_eq_true_eq] at hB
      rcases hB with hB | ⟨⟨⟨hB1, hB2⟩, hB3⟩, hB4⟩
      · rw [show l.toArray.size - n = 0 by omega]
        have hd : l.drop n = [] := List.drop_eq_nil_of_le (by simp at hB; omega)
        rw [hd] at hlist
        refine ⟨?_, hlist⟩
        apply List.eq_nil_iff_forall_not_mem.2
        intro t hr
        obtain ⟨hunt, o, ho, _⟩ := mem_ready.1 hr
        have hto : t < l.toArray.size := (Array.getElem?_eq_some_iff.1 ho).1
        have := hall t (by omega)
        rw [getD_both hunt] at this
        cases this
      · have hdl : (l.drop n).length = l.toArray.size - n := by simp
        have := wpAny_of_seq (P := P) (ops := l.toArray) (md := .any) (Q' := Q) (l.drop n) n L _ w' (fun j => by simp [List.getElem?_drop]) (by rw [hdl, hLe]; exact hB4) hlist
        rwa [hdl] at this)
    (cnt n (Array.replicate l.toArray.size false)) γ0 (Array.replicate l.toArray.size false) w.drew (by simp) (fun j o _ hl => by rw [getD_replicate_false] at hl; cases hl)
    (fun t _ hts => getD_in (by simpa using hts) (getD_replicate_false _ _)) rfl (by simpa using hC)
  have hc : cnt n (Array.replicate l.toArray.size false) = n := by
    unfold cnt
    have : ∀ i ∈ List.range n, (!(Array.replicate l.toArray.size false).getD i true) = true := fun i hi => by
      have hi' := List.mem_range.1 hi
      have : i < l.length := by simp at hn; omega
      simp [this]
    rw [List.countP_eq_length.2 this, List.length_range]
  rw [hc, show n + (l.toArray.size - n) = l.toArray.size by omega] at H
  have hz : fr l.toArray (vals γ0) (fun j => (Array.replicate l.toArray.size false).getD j false) l.toArray.size a = a := by
    rw [fr_congr (l' := fun j => decide (j < 0)) fun j _ => by rw [getD_replicate_false]; simp]
    have := fr_stop (ops := l.toArray) (vals := vals γ0) (k := 0) l.toArray.size a
    rw [Nat.zero_add] at this
    exact this
  rw [hz] at H
  exact H

/-- The operations in the order of the text, the k-th first. -/
def wpE (P : Program) (ops : Array Oper) (S : Nat → Value → Prop) (D : Nat → (Nat → Value) → World → Prop) (K : Nat → (Nat → Value) → World → World → Prop) (C : (Nat → Bool) → World → Prop) (Q : (Nat → Value) → Act → Prop) : Nat → (Nat → Value) → List Oper → Act → Prop
  | _, vs, [], a => Q vs a
  | k, vs, o :: rest, a => ((Region.wanted o (yielded ops a.tmps) = true ∧ ∀ d w, d k = false → C d w → (∀ j, Region.waitsFor .any ops k j = true → D j vs w) →
      GivesE P o a w fun v w' => S k v ∧ C (upB d k) w' ∧ K k vs w w' ∧ D k (updV vs k v) w') ∨
      (Region.wanted o (yielded ops a.tmps) = false ∧ S k undef ∧ (∀ d w, C d w → C (upB d k) w) ∧ ∀ w, D k (updV vs k undef) w)) ∧ (S k (vs k) → wpE P ops S D K C Q (k + 1) vs rest (a.put o.dst (vs k)))
theorem wpE_at {S : Nat → Value → Prop} {D : Nat → (Nat → Value) → World → Prop} {K : Nat → (Nat → Value) → World → World → Prop} {C : (Nat → Bool) → World → Prop} {Qk : (Nat → Value) → Act → Prop} {vs : Nat → Value} (hS : ∀ j, S j (vs j)) : ∀ (l : List Oper) (k : Nat) (a : Act), wpE P ops S D K C Qk k vs l a →
    Qk vs (lexF l (fun i => vs (k + i)) l.length a) ∧ ∀ i o, l[i]? = some o →
      ((Region.wanted o (yielded ops (lexF l (fun i => vs (k + i)) i a).tmps) = true ∧ ∀ d w, d (k + i) = false → C d w → (∀ j, Region.waitsFor .any ops (k + i) j = true → D j vs w) →
        GivesE P o (lexF l (fun i => vs (k + i)) i a) w fun v w' => S (k + i) v ∧ C (upB d (k + i)) w' ∧ K (k + i) vs w w' ∧ D (k + i) (updV vs (k + i) v) w') ∨
      (Region.wanted o (yielded ops (lexF l (fun i => vs (k + i)) i a).tmps) = false ∧ S (k + i) undef ∧ (∀ d w, C d w → C (upB d (k + i)) w) ∧ ∀ w, D (k + i) (updV vs (k + i) undef) w))
  | [], k, a, h => ⟨h, fun i o hi => by simp at hi⟩
  | o :: l, k, a, h => by
    obtain ⟨h1, h2⟩ := h
    obtain ⟨hq, hs⟩ := wpE_at hS l (k + 1) _ (h2 (hS k))
    have e : (fun i => vs (k + 1 + i)) = fun i => vs (k + (i + 1)) := funext fun i => by rw [show k + 1 + i = k + (i + 1) by omega]
    rw [e] at hq hs
    refine ⟨?_, fun i o' hi => ?_⟩
    · rw [List.length_cons, lexF_cons]; exact hq
    · cases i with
      | zero =>
        simp only [List.getElem?_cons_zero, Option.some.injEq] at hi
        subst hi
        exact h1
      | succ i =>
        rw [lexF_cons, show k + (i + 1) = k + 1 + i by omega]
        exact hs i o' (by simpa using hi)
theorem wp_region_ex {id : Nat} {Q : Exit → Act → World → Prop} {C : (Nat → Bool) → World → Prop} {S : Nat → Value → Prop} {D : Nat → (Nat → Value) → World → Prop} {K : Nat → (Nat → Value) → World → World → Prop} {a : Act} {w : World} {l : List Oper} (n : Nat)
    (hm : P.follows .mixedOrders = true) (ht : tidy l.toArray = true) (hB : tailB l.toArray n = true)
    (v0 : Nat → Value) (h0 : ∀ j, S j (v0 j)) (hD : ∀ i j vs w w', i < n → j ≠ i → Region.waitsFor .any l.toArray j i = false → D j vs w → K i vs w w' → D j vs w')
    (hL : ∀ j i vs v w, j ≠ i → Region.waitsFor .any l.toArray j i = false → D j vs w → D j (updV vs i v) w)
    (hC : C (fun _ => false) w.drew)
    (h : ∀ vs : Nat → Value, wpE P l.toArray S D K C (fun vs a' => ∀ d w', (∀ k, k < n → d k = true) → C d w' → (∀ k, k < n → D k vs w') → wpList P l.toArray Q (l.drop n) a' w') 0 vs (l.take n) a) : (Code.region id l.toArray true).wp P Q a w := by
  refine region_coreE (Γ := {vs : Nat → Value // ∀ j, S j (vs j)}) (C := fun γ L w' => C (fun j => L.getD j false) w' ∧ Closed l.toArray L ∧ ∀ k, k < n → L.getD k false = true → D k γ.1 w') n hm ht hB ⟨v0, h0⟩
    ⟨by rw [show (fun j => (Array.replicate l.length false).getD j false) = fun _ => false from funext fun j => getD_replicate_false _ j]; exact hC, (fun j o _ hl => by rw [getD_replicate_false] at hl; cases hl), fun k _ hk => by rw [getD_replicate_false] at hk; cases hk⟩ (fun γ => γ.1) ?_ ?_
  · intro i o hi γ L w' hsz hr ⟨hC', hcl, hDs⟩
    have hin : i < n := by
      have := (List.getElem?_eq_some_iff.1 hi).1
      rw [List.length_take] at this; omega
    have hun := getD_both (mem_ready.1 hr).1
    have hlt : i < L.size := by
      obtain ⟨o', ho', _⟩ := (mem_ready.1 hr).2
      have := (Array.getElem?_eq_some_iff.1 ho').1
      simp at this; omega
    have hup : (fun j => (L.setIfInBounds i true).getD j false) = upB (fun j => L.getD j false) i := funext fun j => by
      unfold upB
      by_cases e : j = i
      · subst e; rw [if_pos rfl]; simp [hlt]
      · rw [if_neg e, getD_set_ne false (Ne.symm e)]
    have hcl2 := closed_set hcl hr
    have key := (wpE_at γ.2 (l.take n) 0 a (h γ.1)).2 i o hi
    simp only [Nat.zero_add] at key
    have hwait : ∀ j, Region.waitsFor .any l.toArray i j = true → D j γ.1 w' := fun j hj => by
      have h1 := waits_ready hr hj
      have hji : j < i := by
        obtain ⟨o2, ho2, e2, he2, hb2, hon⟩ := Region.waitsFor_spec hj
        have := tidy_edge ht ho2 e2 he2 hb2
        omega
      exact hDs j (by omega) h1
    have step : ∀ (v : Value) (w2 : World), C (upB (fun j => L.getD j false) i) w2 → (w2 = w' ∨ K i γ.1 w' w2) → D i (updV γ.1 i v) w2 →
        C (fun j => (L.setIfInBounds i true).getD j false) w2 ∧ Closed l.toArray (L.setIfInBounds i true) ∧ ∀ k, k < n → (L.setIfInBounds i true).getD k false = true → D k (updV γ.1 i v) w2 := fun v w2 hc hb hd => by
      refine ⟨by rw [hup]; exact hc, hcl2, fun k hk hL' => ?_⟩
      by_cases e : k = i
      · subst e; exact hd
      · rw [getD_set_ne false (Ne.symm e)] at hL'
        have hw : Region.waitsFor .any l.toArray k i = false := by
          cases hx : Region.waitsFor .any l.toArray k i with
          | false => rfl
          | true =>
            have := waits_closed hcl hL' hx
            rw [hun] at this
            cases this
        refine hL k i _ v _ e hw ?_
        rcases hb with rfl | hb
        · exact hDs k hk hL'
        · exact hD i k _ _ _ hin e hw (hDs k hk hL') hb
    have upd : ∀ v, S i v → ∀ j, S j (updV γ.1 i v j) := fun v hv j => by
      by_cases e : j = i
      · subst e; rw [updV_self]; exact hv
      · rw [updV_ne _ _ e]; exact γ.2 j
    have keep : ∀ v j, L.getD j false = true → γ.1 j = updV γ.1 i v j := fun v j hj => by
      have : j ≠ i := fun e => by subst e; rw [hun] at hj; cases hj
      rw [updV_ne _ _ this]
    rcases key with ⟨k1, k2⟩ | ⟨k1, k2, k3, k4⟩
    · refine .inl ⟨k1, givesE_mono (k2 _ w' hun hC' hwait) fun v w2 ⟨h1, h2, h3, h4⟩ => ⟨⟨updV γ.1 i v, upd v h1⟩, keep v, updV_self _ _ _, step v w2 h2 (.inr h3) h4⟩⟩
    · exact .inr ⟨k1, ⟨updV γ.1 i undef, upd undef k2⟩, keep undef, updV_self _ _ _, step undef w' (k3 _ _ hC') (.inl rfl) (k4 w')⟩
  · intro γ L w' hall ⟨hC', _, hDs⟩
    have key := (wpE_at γ.2 (l.take n) 0 a (h γ.1)).1
    have ez : (fun i => γ.1 (0 + i)) = γ.1 := funext fun i => by rw [Nat.zero_add]
    rw [ez] at key
    exact key _ w' hall hC' fun k hk => hDs k hk (hall k hk)
end
end Go.Proofs.Ytlbfjnddbdpdpaa
set_option maxRecDepth 100000
namespace Go.Proofs.Ytlbfjnddbdpdpaa
open Go.ChangeShapes Go.WideShapes Go.ChangeAt Go.RowKit
attribute [local go_sem] Gives GivesE
theorem gE_ldA {a : Act} {w : World} {dst : Option Tmp} {ty : TypeId} {pos : String} {after : Array Edge} {x : Operand} {g o n : Nat} {f : Nat → Nat} {T : TypeId} {gd : Option (Nat × Bool)} {R : Value → World → Prop} (hT : ArT T n) (hx : a.eval x = .pointer (some ⟨g, o, none⟩)) (hb : w.rangeAt g o (ar n f).toList) (hR : R (.agg (ar n f)) w) : GivesE Try.prog ⟨dst, .load T x, ty, pos, after, gd⟩ a w R := by
  unfold GivesE
  simp only [execOp, hx, Sem.run_bind, run_ldm hT hb, Result.andThen_ok, Sem.run_pure]
  exact hR
section
variable {a : Act} {w : World} {dst : Option Tmp} {ty r : TypeId} {pos : String} {after : Array Edge} {x y : Operand} {f g : Nat → Nat} {gd : Option (Nat × Bool)} {R : Value → World → Prop} {T : TypeId} {n : Nat}
theorem exec_eqU (hT : Try.prog.underlying T = some (.array n 5)) (hg : Try.prog.eqGuardType Try.prog.depth T = false) (hx : a.eval x = .agg (ar n f)) (hy : a.eval y = .agg (ar n g)) : (execOp a.eval ⟨dst, .binOp .eql T x y r, ty, pos, after, gd⟩).run Try.prog w = .ok (.value (.bool (eqA n f g))) w := by
  have h1 : (eqGuard .eql T x y (.agg (ar n f)) (.agg (ar n g))).run Try.prog w = .ok () w := by
    simp [eqGuard, hg, go_sem]
  simp only [execOp, hx, hy, Sem.run_bind, h1, run_eql_ar hT, Result.andThen_ok, Sem.run_pure]
theorem gE_eqU (hT : Try.prog.underlying T = some (.array n 5)) (hg : Try.prog.eqGuardType Try.prog.depth T = false) (hx : a.eval x = .agg (ar n f)) (hy : a.eval y = .agg (ar n g)) (hR : R (.bool (eqA n f g)) w) : GivesE Try.prog ⟨dst, .binOp .eql T x y r, ty, pos, after, gd⟩ a w R := by
  unfold GivesE
  rw [exec_eqU hT hg hx hy]
  exact hR
end
section
variable {ops : Array Oper} {a : Act} {rest : List Oper} {dst : Option Tmp} {ty r : TypeId} {pos : String} {after : Array Edge} {x y : Operand} {f g : Nat → Nat} {gd : Option (Nat × Bool)} {C : World → Prop} {Qk : Act → Prop} {T : TypeId} {n : Nat}
theorem keqU (b : Bool) (hT : Try.prog.underlying T = some (.array n 5)) (hg : Try.prog.eqGuardType Try.prog.depth T = false) (hwt : Region.wanted ⟨dst, .binOp .eql T x y r, ty, pos, after, gd⟩ (yielded ops a.tmps) = true) (hx : a.eval x = .agg (ar n f)) (hy : a.eval y = .agg (ar n g)) (hb : eqA n f g = b)
    (h : wpK Try.prog ops C Qk rest (a.put dst (.bool b))) : wpK Try.prog ops C Qk (⟨dst, .binOp .eql T x y r, ty, pos, after, gd⟩ :: rest) a :=
  wpK_val hwt (fun w hw => gives_value (w' := w) (by rw [exec_eqU hT hg hx hy, hb]) hw) h
theorem kneU (b : Bool) (hT : Try.prog.underlying T = some (.array n 5)) (hg : Try.prog.eqGuardType Try.prog.depth T = false) (hwt : Region.wanted ⟨dst, .binOp .neq T x y r, ty, pos, after, gd⟩ (yielded ops a.tmps) = true) (hx : a.eval x = .agg (ar n f)) (hy : a.eval y = .agg (ar n g)) (hb : (!eqA n f g) = b)
    (h : wpK Try.prog ops C Qk rest (a.put dst (.bool b))) : wpK Try.prog ops C Qk (⟨dst, .binOp .neq T x y r, ty, pos, after, gd⟩ :: rest) a :=
  wpK_val hwt (fun w hw => gives_value (w' := w) (by
    have h1 : (eqGuard .neq T x y (.agg (ar n f)) (.agg (ar n g))).run Try.prog w = .ok () w := by
      simp [eqGuard, hg, go_sem]
    simp only [execOp, hx, hy, Sem.run_bind, h1, run_neq_ar hT, Result.andThen_ok, Sem.run_pure, hb]) hw) h
/-- A literal of one constant part, in such a region. -/
theorem kbldOne {i : Nat} {v : Value} {cs : Array Value} (hwt : Region.wanted ⟨dst, .build T #[(i, .const v)], ty, pos, after, gd⟩ (yielded ops a.tmps) = true) (hb : ∀ w, (Instr.build T #[(i, v)]).run Try.prog w = .ok (.agg cs) w)
    (h : wpK Try.prog ops C Qk rest (a.put dst (.agg cs))) : wpK Try.prog ops C Qk (⟨dst, .build T #[(i, .const v)], ty, pos, after, gd⟩ :: rest) a :=
  wpK_val hwt (fun w hw => gives_value (w' := w) (by
    have e : (#[(i, Operand.const v)] : Array (Nat × Operand)).map (fun (i, x) => (i, a.eval x)) = #[(i, v)] := by simp only [List.map_toArray, List.map_cons, List.map_nil]; rfl
    simp only [execOp, Sem.run_bind, e, hb, Result.andThen_ok, Sem.run_pure]) hw) h
/-- A literal of no part. -/
theorem kbldZ {cs : Array Value} (hwt : Region.wanted ⟨dst, .build T #[], ty, pos, after, gd⟩ (yielded ops a.tmps) = true) (hb : ∀ w, (Instr.build T #[]).run Try.prog w = .ok (.agg cs) w)
    (h : wpK Try.prog ops C Qk rest (a.put dst (.agg cs))) : wpK Try.prog ops C Qk (⟨dst, .build T #[], ty, pos, after, gd⟩ :: rest) a :=
  wpK_val hwt (fun w hw => gives_value (w' := w) (by
    have e : (#[] : Array (Nat × Operand)).map (fun (i, x) => (i, a.eval x)) = #[] := by simp
    simp only [execOp, Sem.run_bind, e, hb, Result.andThen_ok, Sem.run_pure]) hw) h
end
namespace DvP
end DvP
end Go.Proofs.Ytlbfjnddbdpdpaa
set_option maxRecDepth 100000
namespace Go.Proofs.Ytlbfjnddbdpdpaa
open Go.ChangeShapes Go.WideShapes Go.ChangeAt Go.RowKit
attribute [local go_sem] GivesE
/-- What is known of a value: its kind, what a world holds of it, one of the kind. -/
structure Sp where
  S : Value → Prop
  D : Value → World → Prop
  v0 : Value
structure Sp.ok (c : Sp) : Prop where
  some : c.S c.v0
  keep : ∀ v w1 w2, c.D v w1 → Below w1.heap.size w1 w2 → c.D v w2
def lkSp : List (Nat × Sp) → Nat → Option Sp
  | [], _ => none
  | (p, c) :: r, j => if j = p then some c else lkSp r j
def yS (fx : List (Option Value)) (sp : List (Nat × Sp)) (j : Nat) (v : Value) : Prop := match lkSp sp j with
  | some c => c.S v
  | none => match fx[j]? with
    | some (some u) => v = u
    | _ => True
def yV (fx : List (Option Value)) (sp : List (Nat × Sp)) (j : Nat) : Value := match lkSp sp j with
  | some c => c.v0
  | none => match fx[j]? with
    | some (some u) => u
    | _ => undef
theorem lk_mem : ∀ {sp : List (Nat × Sp)} {j : Nat} {c : Sp}, lkSp sp j = some c → ∃ p, (p, c) ∈ sp
  | [], _, _, h => by cases h
  | (p, d) :: r, j, c, h => by
    unfold lkSp at h
    split at h
    · cases h; exact ⟨p, List.mem_cons_self⟩
    · obtain ⟨q, hq⟩ := lk_mem h
      exact ⟨q, List.mem_cons_of_mem _ hq⟩
theorem yS_ok (fx : List (Option Value)) {sp : List (Nat × Sp)} (h : ∀ x ∈ sp, x.2.ok) (j : Nat) : yS fx sp j (yV fx sp j) := by
  unfold yS yV
  split
  · rename_i c hc
    obtain ⟨p, hp⟩ := lk_mem hc
    exact (h _ hp).some
  · split
    · rfl
    · trivial
def yD (sp : List (Nat × Sp)) (j : Nat) (vs : Nat → Value) (w : World) : Prop := match lkSp sp j with
  | some c => c.D (vs j) w
  | none => True
theorem yD_keep {sp : List (Nat × Sp)} (h : ∀ x ∈ sp, x.2.ok) {j : Nat} {vs : Nat → Value} {w1 w2 : World} (hd : yD sp j vs w1) (hb : Below w1.heap.size w1 w2) : yD sp j vs w2 := by
  unfold yD at hd ⊢
  split
  · rename_i c hc
    rw [hc] at hd
    obtain ⟨p, hp⟩ := lk_mem hc
    exact (h _ hp).keep _ _ _ hd hb
  · trivial
theorem yD_loc {sp : List (Nat × Sp)} {i j : Nat} {vs : Nat → Value} {v : Value} {w : World} (hji : j ≠ i) (h : yD sp j vs w) : yD sp j (updV vs i v) w := by
  unfold yD at h ⊢
  rw [updV_ne _ _ hji]
  exact h
theorem yD_some {sp : List (Nat × Sp)} {p : Nat} {c : Sp} {vs : Nat → Value} {v : Value} {w : World} (hc : lkSp sp p = some c) (h : c.D v w) : yD sp p (updV vs p v) w := by
  unfold yD
  rw [hc, updV_self]
  exact h
theorem wp_region_y {id : Nat} {Q : Exit → Act → World → Prop} {a : Act} {w : World} {l : List Oper} (fx : List (Option Value)) (sp : List (Nat × Sp)) (hsp : ∀ x ∈ sp, x.2.ok)
    (n : Nat) (hm : Try.prog.follows .mixedOrders = true) (ht : tidy l.toArray = true) (hB : tailB l.toArray n = true)
    (h : ∀ vs : Nat → Value, wpE Try.prog l.toArray (yS fx sp) (yD sp) (fun _ _ w w' => Below w.heap.size w w') (fun _ w' => Below w.heap.size w w') (fun vs a' => ∀ (d : Nat → Bool) w', (∀ k, k < n → d k = true) → Below w.heap.size w w' → (∀ k, k < n → yD sp k vs w') → wpList Try.prog l.toArray Q (l.drop n) a' w') 0 vs (l.take n) a) :
    (Code.region id l.toArray true).wp Try.prog Q a w :=
  wp_region_ex (S := yS fx sp) (D := yD sp) (K := fun _ _ w w' => Below w.heap.size w w') (C := fun _ w' => Below w.heap.size w w') n hm ht hB _ (yS_ok fx hsp) (fun i j vs w w' _ _ _ h hb => yD_keep hsp h hb)
    (fun j i vs v w hji _ h => yD_loc hji h) (Below.refl _ _).drew h
end Go.Proofs.Ytlbfjnddbdpdpaa
set_option maxRecDepth 100000
namespace Go.Proofs.Ytlbfjnddbdpdpaa
open Go.ChangeShapes Go.WideShapes Go.ChangeAt Go.RowKit
section
variable {α : Type} {k : Nat} {en : α → List Value} {E L : TypeId}
theorem run_lit1 (hE : EltX E k en) (hu : Try.prog.underlying L = some (.slice E)) (x : α) {v : Value} (hv : v.cells.toList = en x) (hk : k ≤ 1000) (w : World) :
    (Instr.buildSlice L 1 #[(0, v)]).run Try.prog w = .ok (.slice (some ⟨w.heap.size, 0, none⟩) 1 1) (w.alloc (.cells (en x).toArray E)) := by
  obtain ⟨ie, z, hi, hz, h1, h2, h3⟩ := hE.info
  refine run_buildSlice w L E 1 _ _ ie z hu hi hz (by rw [h1]; omega) (by rw [h1]; have := hE.pos; omega) ?_
  have hcs : v.cells.size = k := by rw [← Array.length_toList, hv, hE.len]
  have := fill_consec (place := fun i => some (i * ie.size, ie.size)) [v] [(0, k)] [] (((Array.range (1 * ie.size)).map (z.cells[· % z.cells.size]!)).toList) 0 ⟨rfl, trivial⟩ (by simp [hcs]) (by simp [h1]) (fun j hj => by
    have : j = 0 := by simp at hj; exact hj
    subst this
    simp [h1])
  simp only [List.nil_append, List.map_cons, List.map_nil, List.sum_cons, List.sum_nil, Nat.add_zero, List.flatMap_cons, List.flatMap_nil, List.append_nil, hv] at this
  rw [List.drop_eq_nil_of_le (by simp [h1]), List.append_nil, Array.toArray_toList] at this
  exact this
/-- What such a literal is. -/
theorem sli_lit1 {S : Nat → Prop} (hE : EltX E k en) (x : α) (w : World) (hS : S w.heap.size) : Sli k en S (w.alloc (.cells (en x).toArray E)) (some ⟨w.heap.size, 0, none⟩) [x] 1 1 where
  len := rfl
  cap := Nat.le_refl _
  max := by unfold maxLen; omega
  none e := by cases e
  lst _ := ⟨w.heap.size, 0, rfl, hS, by simp, fun i y hi j u hj => by
    have hb : Blk (w.alloc (.cells (en x).toArray E)) w.heap.size E (en x).toArray := Blk.new _ _ _
    cases i with
    | zero =>
      simp only [List.getElem?_cons_zero, Option.some.injEq] at hi
      subst hi
      rw [Nat.zero_add, Nat.zero_mul, Nat.zero_add, hb.cell]
      simpa using hj
    | succ i => simp at hi⟩
variable {ops : Array Oper} {Q : Exit → Act → World → Prop} {a : Act} {w : World} {rest : List Oper} {dst : Option Tmp} {ty : TypeId} {pos : String} {after : Array Edge} {o : Operand} {x : α} {v : Value}
theorem wlit1 (hE : EltX E k en) (hu : Try.prog.underlying L = some (.slice E)) (hk : k ≤ 1000) (ho : a.eval o = v) (hv : v.cells.toList = en x)
    (h : wpList Try.prog ops Q rest (a.put dst (.slice (some ⟨w.heap.size, 0, none⟩) 1 1)) (w.alloc (.cells (en x).toArray E))) :
    wpList Try.prog ops Q (⟨dst, .buildSlice L 1 #[(0, o)], ty, pos, after, none⟩ :: rest) a w := by
  have hm : (#[(0, o)] : Array (Nat × Operand)).map (fun (i, x) => (i, a.eval x)) = #[(0, v)] := by
    simp only [List.map_toArray, List.map_cons, List.map_nil, ho]
  refine wpList_plain rfl fun K hK => ?_
  unfold Oper.wp execOp
  simp only [Sem.run_bind, hm, run_lit1 hE hu x hv hk w, Result.andThen_ok, Sem.run_pure]
  exact hK _ _ h
theorem gE_lit1 {gd : Option (Nat × Bool)} {R : Value → World → Prop} (hE : EltX E k en) (hu : Try.prog.underlying L = some (.slice E)) (hk : k ≤ 1000) (ho : a.eval o = v) (hv : v.cells.toList = en x)
    (h : R (.slice (some ⟨w.heap.size, 0, none⟩) 1 1) (w.alloc (.cells (en x).toArray E))) : GivesE Try.prog ⟨dst, .buildSlice L 1 #[(0, o)], ty, pos, after, gd⟩ a w R := by
  have hm : (#[(0, o)] : Array (Nat × Operand)).map (fun (i, x) => (i, a.eval x)) = #[(0, v)] := by
    simp only [List.map_toArray, List.map_cons, List.map_nil, ho]
  unfold GivesE execOp
  simp only [Sem.run_bind, hm, run_lit1 hE hu x hv hk w, Result.andThen_ok, Sem.run_pure]
  exact h
theorem gE_slX {gd : Option (Nat × Bool)} {R : Value → World → Prop} {S : Nat → Prop} {A : Option Addr} {l : List α} {n cap i j : Nat} {x y z : Operand} (hE : EltX E k en) (hu : Try.prog.underlying L = some (.slice E)) (hel : Try.prog.elem L = E)
    (hx : a.eval x = .slice A n cap) (hy : a.eval y = .int .i64 i) (hz : a.eval z = .int .i64 j) (h : Sli k en S w A l n cap) (hij : i ≤ j) (hj : j ≤ n)
    (hR : ∀ A', Sli k en S w A' ((l.drop i).take (j - i)) (j - i) (cap - i) → R (.slice A' (j - i) (cap - i)) w) : GivesE Try.prog ⟨dst, .slice L x (some y) (some z) none, ty, pos, after, gd⟩ a w R := by
  obtain ⟨A', hr, ha⟩ := run_slX hE hu hel h hij hj
  unfold GivesE execOp
  simp only [Sem.run_bind, Option.map_some, Option.map_none, Sem.run_pure, hx, hy, hz, hr, Result.andThen_ok]
  exact hR A' ha
/-- A slice of these elements, wherever it lies in blocks of S. -/
def spX (k : Nat) (en : α → List Value) (S : Nat → Prop) (l : List α) : Sp := ⟨fun v => ∃ (A : Option Addr) (c : Nat), v = .slice A l.length c, fun v w => ∃ (A : Option Addr) (c : Nat), v = .slice A l.length c ∧ Sli k en S w A l l.length c, .slice none l.length 0⟩
theorem spX_ok (k : Nat) (en : α → List Value) (S : Nat → Prop) (l : List α) : (spX k en S l).ok := ⟨⟨none, 0, rfl⟩, fun v w1 w2 ⟨A, c, h1, h2⟩ hb => ⟨A, c, h1, h2.turn (Turn.of_new (S := fun _ => False) hb) fun _ _ _ e => e⟩⟩
end
end Go.Proofs.Ytlbfjnddbdpdpaa
set_option maxRecDepth 100000
namespace Go.Proofs.Ytlbfjnddbdpdpaa
open Go.ChangeShapes Go.WideShapes Go.ChangeAt Go.RowKit
section
variable {α : Type} {k : Nat} {en : α → List Value} {E L ty : TypeId} {S T : Nat → Prop} {w : World} {A B : Option Addr} {l m : List α}
theorem flat_read (hE : EltX E k en) {n c : Nat} {ad : Addr} (h : Sli k en S w (some ad) l n c) : ∀ j u, (l.flatMap en)[j]? = some u → w.cell? (ad.add j) = some u := fun j u hj => by
  have hjl := (List.getElem?_eq_some_iff.1 hj).1
  rw [flat_len hE.len] at hjl
  have hq : j / k < l.length := Nat.div_lt_of_lt_mul (by rw [Nat.mul_comm]; exact hjl)
  have h4 := flat_at hE.len l (j / k) (j % k) l[j / k] (List.getElem?_eq_getElem hq) (Nat.mod_lt _ hE.pos)
  rw [show j / k * k + j % k = j by rw [Nat.mul_comm]; exact Nat.div_add_mod j k, hj] at h4
  obtain ⟨b, o, e, _, _, hr⟩ := h.lst (Nat.lt_of_le_of_lt (Nat.zero_le _) hq)
  obtain rfl : ad = ⟨b, o, none⟩ := Option.some.inj e
  have h5 := hr (j / k) l[j / k] (List.getElem?_eq_getElem hq) (j % k) u h4.symm
  rw [Addr.add_mid]
  rwa [show o + j / k * k + j % k = o + j by have := Nat.div_add_mod j k; rw [Nat.mul_comm] at this; omega] at h5
theorem sli_new (hE : EltX E k en) (ls : List α) (zs : List Value) (n c : Nat) (hn : ls.length = n) (hnc : n ≤ c) (hc : c ≤ maxLen) (w' : World) (cs : Array Value) (hcs : cs.toList = ls.flatMap en ++ zs) :
    Sli k en (fun b => w'.heap.size ≤ b) (w'.alloc (.cells cs E)) (some ⟨w'.heap.size, 0, none⟩) ls n c where
  len := hn
  cap := hnc
  max := hc
  none e := by cases e
  lst _ := ⟨w'.heap.size, 0, rfl, Nat.le_refl _, by simp, fun i x hi j u hj => by
    have hb : Blk (w'.alloc (.cells cs E)) w'.heap.size E cs := Blk.new _ _ _
    have hjl : j < k := by have := (List.getElem?_eq_some_iff.1 hj).1; rwa [hE.len] at this
    have h1 := flat_at hE.len ls i j x hi hjl
    rw [Nat.zero_add, hb.cell, ← Array.getElem?_toList, hcs, List.getElem?_append_left (by
      have := (List.getElem?_eq_some_iff.1 hi).1
      rw [flat_len hE.len]
      have := Nat.mul_le_mul_right k (show i + 1 ≤ ls.length from this)
      rw [Nat.add_mul] at this
      omega), h1]
    exact hj⟩
theorem run_full (hE : EltX E k en) (hu : Try.prog.underlying L = some (.slice E)) {n j cB : Nat} (h : Sli k en S w A l n n) (hm : Sli k en T w B m j cB) (hj : 0 < j) (hsz : n + j ≤ 1000000) (hk : k ≤ 1000) :
    ∃ A' c' w', (Builtin.append_ #[L, L] ty #[.slice A n n, .slice B j cB]).run Try.prog w = .ok (.slice A' (n + j) c') w' ∧ Sli k en (fun b => w.heap.size ≤ b) w' A' (l ++ m) (n + j) c' ∧ Below w.heap.size w w' := by
  obtain ⟨i, z, hi, hz, h1, h2, h3⟩ := hE.info
  have hbytes : (n + j) * i.bytes ≤ 140737488355328 := Nat.le_trans (Nat.mul_le_mul hsz (Nat.le_trans h2 (show 16 * k + 16 ≤ 16016 by omega))) (by omega)
  obtain ⟨bd, rfl⟩ : ∃ bd, B = some bd := by
    cases B with
    | none => have := hm.none rfl; omega
    | some bd => exact ⟨bd, rfl⟩
  have hlm : (m.flatMap en).length = j * i.size := by rw [flat_len hE.len, hm.len, h1]
  cases A with
  | none =>
    obtain ⟨rfl, _⟩ := h.none rfl
    obtain rfl := List.eq_nil_of_length_eq_zero h.len
    have hr := run_append_nil (P := Try.prog) w L ty E i z hu hi hz bd j cB (m.flatMap en) hlm (flat_read hE hm) hj (by omega) (by rw [Nat.zero_add] at hbytes; omega)
    rw [Nat.zero_add, List.nil_append]
    exact ⟨_, _, _, hr, sli_new hE m _ j _ hm.len (grownCap_ge _ _ _ _) (grownCap_le_maxLen _ _ _ _ (by unfold maxLen; omega)) w.drew _ (by simp; rfl), (Below.refl _ _).drew.alloc (Nat.le_refl _) _⟩
  | some ad =>
    have hll : (l.flatMap en).length = n * i.size := by rw [flat_len hE.len, h.len, h1]
    have hr := run_append_grow (P := Try.prog) w L ty E i z hu hi hz ad n n (l.flatMap en) hll (flat_read hE h) bd j cB (m.flatMap en) hlm (flat_read hE hm) (by omega) (by omega) (growslice_fits (by omega) hbytes)
    refine ⟨_, _, _, hr, sli_new hE (l ++ m) _ (n + j) _ (by rw [List.length_append, h.len, hm.len]) (grownCap_ge _ _ _ _) (grownCap_le_maxLen _ _ _ _ (by unfold maxLen; omega)) w.drew _ (by simp [List.flatMap_append]; rfl), (Below.refl _ _).drew.alloc (Nat.le_refl _) _⟩
variable {a : Act} {dst : Option Tmp} {pos : String} {after : Array Edge} {gd : Option (Nat × Bool)} {R : Value → World → Prop} {o1 o2 : Operand}
theorem gE_full (hE : EltX E k en) (hu : Try.prog.underlying L = some (.slice E)) {n j cB : Nat} (hx : a.eval o1 = .slice A n n) (hy : a.eval o2 = .slice B j cB) (h : Sli k en S w A l n n) (hm : Sli k en T w B m j cB) (hj : 0 < j) (hsz : n + j ≤ 1000000) (hk : k ≤ 1000)
    (hR : ∀ A' c' w', Sli k en (fun b => w.heap.size ≤ b) w' A' (l ++ m) (n + j) c' → Below w.heap.size w w' → R (.slice A' (n + j) c') w') :
    GivesE Try.prog ⟨dst, .call { callee := .builtin .append, args := #[o1, o2], argTypes := #[L, L] }, ty, pos, after, gd⟩ a w R := by
  obtain ⟨A', c', w', hr, h1, h2⟩ := run_full (ty := ty) hE hu h hm hj hsz hk
  unfold GivesE execOp
  simp only [resolve, invoke, builtin, Sem.run_bind, Sem.run_pure, Result.andThen_ok, List.map_toArray, List.map_cons, List.map_nil, hx, hy, hr]
  exact hR A' c' w' h1 h2
end
end Go.Proofs.Ytlbfjnddbdpdpaa
set_option maxRecDepth 100000
namespace Go.Proofs.Ytlbfjnddbdpdpaa
open Go.ChangeShapes Go.WideShapes Go.ChangeAt Go.RowKit
section
variable {α : Type} {k : Nat} {en : α → List Value} {E L : TypeId}
theorem run_lit2 (hE : EltX E k en) (hu : Try.prog.underlying L = some (.slice E)) (x y : α) {v u : Value} (hv : v.cells.toList = en x) (hy : u.cells.toList = en y) (hk : k ≤ 1000) (w : World) :
    (Instr.buildSlice L 2 #[(0, v), (1, u)]).run Try.prog w = .ok (.slice (some ⟨w.heap.size, 0, none⟩) 2 2) (w.alloc (.cells (en x ++ en y).toArray E)) := by
  obtain ⟨ie, z, hi, hz, h1, h2, h3⟩ := hE.info
  refine run_buildSlice w L E 2 _ _ ie z hu hi hz (by rw [h1]; omega) (by rw [h1]; have := hE.pos; omega) ?_
  have hcs : v.cells.size = k := by rw [← Array.length_toList, hv, hE.len]
  have hcu : u.cells.size = k := by rw [← Array.length_toList, hy, hE.len]
  have := fill_consec (place := fun i => some (i * ie.size, ie.size)) [v, u] [(0, k), (k, k)] [] (((Array.range (2 * ie.size)).map (z.cells[· % z.cells.size]!)).toList) 0 ⟨rfl, by simp, trivial⟩ (by simp [hcs, hcu]) (by simp [h1]; omega) (fun j hj => by
    have : j = 0 ∨ j = 1 := by simp at hj; omega
    rcases this with rfl | rfl
    · simp [h1]
    · simp [h1])
  simp only [List.nil_append, List.map_cons, List.map_nil, List.sum_cons, List.sum_nil, Nat.add_zero, List.flatMap_cons, List.flatMap_nil, List.append_nil, hv, hy] at this
  rw [List.drop_eq_nil_of_le (by simp [h1]; omega), List.append_nil, Array.toArray_toList] at this
  exact this
/-- What such a literal is. -/
theorem sli_lit2 {S : Nat → Prop} (hE : EltX E k en) (x y : α) (w : World) (hS : S w.heap.size) : Sli k en S (w.alloc (.cells (en x ++ en y).toArray E)) (some ⟨w.heap.size, 0, none⟩) [x, y] 2 2 where
  len := rfl
  cap := Nat.le_refl _
  max := by unfold maxLen; omega
  none e := by cases e
  lst _ := ⟨w.heap.size, 0, rfl, hS, by simp, fun i z hi j u hj => by
    have hb : Blk (w.alloc (.cells (en x ++ en y).toArray E)) w.heap.size E (en x ++ en y).toArray := Blk.new _ _ _
    have hjl := (List.getElem?_eq_some_iff.1 hj).1
    rcases i with _ | _ | i
    · simp only [List.getElem?_cons_zero, Option.some.injEq] at hi
      subst hi
      rw [hE.len] at hjl
      rw [Nat.zero_add, Nat.zero_mul, Nat.zero_add, hb.cell, List.getElem?_toArray, List.getElem?_append_left (by rw [hE.len]; exact hjl)]
      exact hj
    · simp only [List.getElem?_cons_succ, List.getElem?_cons_zero, Option.some.injEq] at hi
      subst hi
      rw [Nat.zero_add, Nat.zero_add, Nat.one_mul, hb.cell, List.getElem?_toArray, List.getElem?_append_right (by rw [hE.len]; omega), hE.len, Nat.add_sub_cancel_left]
      exact hj
    · simp at hi⟩
variable {ops : Array Oper} {Q : Exit → Act → World → Prop} {a : Act} {w : World} {rest : List Oper} {dst : Option Tmp} {ty : TypeId} {pos : String} {after : Array Edge} {o p : Operand} {x y : α} {v u : Value}
theorem wlit2 (hE : EltX E k en) (hu : Try.prog.underlying L = some (.slice E)) (hk : k ≤ 1000) (ho : a.eval o = v) (hp : a.eval p = u) (hv : v.cells.toList = en x) (hy : u.cells.toList = en y)
    (h : wpList Try.prog ops Q rest (a.put dst (.slice (some ⟨w.heap.size, 0, none⟩) 2 2)) (w.alloc (.cells (en x ++ en y).toArray E))) :
    wpList Try.prog ops Q (⟨dst, .buildSlice L 2 #[(0, o), (1, p)], ty, pos, after, none⟩ :: rest) a w := by
  have hm : (#[(0, o), (1, p)] : Array (Nat × Operand)).map (fun (i, x) => (i, a.eval x)) = #[(0, v), (1, u)] := by
    simp only [List.map_toArray, List.map_cons, List.map_nil, ho, hp]
  refine wpList_plain rfl fun K hK => ?_
  unfold Oper.wp execOp
  simp only [Sem.run_bind, hm, run_lit2 hE hu x y hv hy hk w, Result.andThen_ok, Sem.run_pure]
  exact hK _ _ h
end
end Go.Proofs.Ytlbfjnddbdpdpaa
set_option maxRecDepth 100000
namespace Go.Proofs.Ytlbfjnddbdpdpaa
open Go.RowKit
section
variable {P : Program} {ops : Array Oper}
/-- The operations in the order of the text, the k-th first. -/
def wpC (P : Program) (ops : Array Oper) (S : Nat → Value → Prop) (C : (Nat → Bool) → (Nat → Value) → World → Prop) (Q : (Nat → Value) → Act → Prop) : Nat → (Nat → Value) → List Oper → Act → Prop
  | _, vs, [], a => Q vs a
  | k, vs, o :: rest, a => ((Region.wanted o (yielded ops a.tmps) = true ∧ ∀ d w, d k = false → (∀ j, Region.waitsFor .any ops j k = true → d j = false) → (∀ j, Region.waitsFor .any ops k j = true → d j = true) → C d vs w →
      GivesE P o a w fun v w' => S k v ∧ C (upB d k) (updV vs k v) w') ∨
      (Region.wanted o (yielded ops a.tmps) = false ∧ S k undef ∧ (∀ d w, C d vs w → C (upB d k) (updV vs k undef) w))) ∧ (S k (vs k) → wpC P ops S C Q (k + 1) vs rest (a.put o.dst (vs k)))
theorem wpC_at {S : Nat → Value → Prop} {C : (Nat → Bool) → (Nat → Value) → World → Prop} {Qk : (Nat → Value) → Act → Prop} {vs : Nat → Value} (hS : ∀ j, S j (vs j)) : ∀ (l : List Oper) (k : Nat) (a : Act), wpC P ops S C Qk k vs l a →
    Qk vs (lexF l (fun i => vs (k + i)) l.length a) ∧ ∀ i o, l[i]? = some o →
      ((Region.wanted o (yielded ops (lexF l (fun i => vs (k + i)) i a).tmps) = true ∧ ∀ d w, d (k + i) = false → (∀ j, Region.waitsFor .any ops j (k + i) = true → d j = false) → (∀ j, Region.waitsFor .any ops (k + i) j = true → d j = true) → C d vs w →
        GivesE P o (lexF l (fun i => vs (k + i)) i a) w fun v w' => S (k + i) v ∧ C (upB d (k + i)) (updV vs (k + i) v) w') ∨
      (Region.wanted o (yielded ops (lexF l (fun i => vs (k + i)) i a).tmps) = false ∧ S (k + i) undef ∧ (∀ d w, C d vs w → C (upB d (k + i)) (updV vs (k + i) undef) w)))
  | [], k, a, h => ⟨h, fun i o hi => by simp at hi⟩
  | o :: l, k, a, h => by
    obtain ⟨h1, h2⟩ := h
    obtain ⟨hq, hs⟩ := wpC_at hS l (k + 1) _ (h2 (hS k))
    have e : (fun i => vs (k + 1 + i)) = fun i => vs (k + (i + 1)) := funext fun i => by rw [show k + 1 + i = k + (i + 1) by omega]
    rw [e] at hq hs
    refine ⟨?_, fun i o' hi => ?_⟩
    · rw [List.length_cons, lexF_cons]; exact hq
    · cases i with
      | zero =>
        simp only [List.getElem?_cons_zero, Option.some.injEq] at hi
        subst hi
        exact h1
      | succ i =>
        rw [lexF_cons, show k + (i + 1) = k + 1 + i by omega]
        exact hs i o' (by simpa using hi)
theorem wp_region_c {id : Nat} {Q : Exit → Act → World → Prop} {C : (Nat → Bool) → (Nat → Value) → World → Prop} {S : Nat → Value → Prop} {a : Act} {w : World} {l : List Oper} (n : Nat)
    (hm : P.follows .mixedOrders = true) (ht : tidy l.toArray = true) (hB : tailB l.toArray n = true)
    (v0 : Nat → Value) (h0 : ∀ j, S j (v0 j)) (hC : C (fun _ => false) v0 w.drew)
    (h : ∀ vs : Nat → Value, wpC P l.toArray S C (fun vs a' => ∀ d w', (∀ k, k < n → d k = true) → C d vs w' → wpList P l.toArray Q (l.drop n) a' w') 0 vs (l.take n) a) : (Code.region id l.toArray true).wp P Q a w := by
  refine region_coreE (Γ := {vs : Nat → Value // ∀ j, S j (vs j)}) (C := fun γ L w' => C (fun j => L.getD j false) γ.1 w' ∧ Closed l.toArray L) n hm ht hB ⟨v0, h0⟩
    ⟨by rw [show (fun j => (Array.replicate l.length false).getD j false) = fun _ => false from funext fun j => getD_replicate_false _ j]; exact hC, (fun j o _ hl => by rw [getD_replicate_false] at hl; cases hl)⟩ (fun γ => γ.1) ?_ ?_
  · intro i o hi γ L w' hsz hr ⟨hC', hcl⟩
    have hun := getD_both (mem_ready.1 hr).1
    have hlt : i < L.size := by
      obtain ⟨o', ho', _⟩ := (mem_ready.1 hr).2
      have := (Array.getElem?_eq_some_iff.1 ho').1
      simp at this; omega
    have hup : (fun j => (L.setIfInBounds i true).getD j false) = upB (fun j => L.getD j false) i := funext fun j => by
      unfold upB
      by_cases e : j = i
      · subst e; rw [if_pos rfl]; simp [hlt]
      · rw [if_neg e, getD_set_ne false (Ne.symm e)]
    have hcl2 := closed_set hcl hr
    have key := (wpC_at γ.2 (l.take n) 0 a (h γ.1)).2 i o hi
    simp only [Nat.zero_add] at key
    have hwait : ∀ j, Region.waitsFor .any l.toArray i j = true → L.getD j false = true := fun j hj => waits_ready hr hj
    have hnext : ∀ j, Region.waitsFor .any l.toArray j i = true → L.getD j false = false := fun j hj => by
      cases hx : L.getD j false with
      | false => rfl
      | true =>
        have := waits_closed hcl hx hj
        rw [hun] at this
        cases this
    have upd : ∀ v, S i v → ∀ j, S j (updV γ.1 i v j) := fun v hv j => by
      by_cases e : j = i
      · subst e; rw [updV_self]; exact hv
      · rw [updV_ne _ _ e]; exact γ.2 j
    have keep : ∀ v j, L.getD j false = true → γ.1 j = updV γ.1 i v j := fun v j hj => by
      have : j ≠ i := fun e => by subst e; rw [hun] at hj; cases hj
      rw [updV_ne _ _ this]
    rcases key with ⟨k1, k2⟩ | ⟨k1, k2, k3⟩
    · refine .inl ⟨k1, givesE_mono (k2 _ w' hun hnext hwait hC') fun v w2 ⟨h1, h2⟩ => ⟨⟨updV γ.1 i v, upd v h1⟩, keep v, updV_self _ _ _, ?_, hcl2⟩⟩
      rw [hup]; exact h2
    · refine .inr ⟨k1, ⟨updV γ.1 i undef, upd undef k2⟩, keep undef, updV_self _ _ _, ?_, hcl2⟩
      rw [hup]; exact k3 _ _ hC'
  · intro γ L w' hall ⟨hC', _⟩
    have key := (wpC_at γ.2 (l.take n) 0 a (h γ.1)).1
    have ez : (fun i => γ.1 (0 + i)) = γ.1 := funext fun i => by rw [Nat.zero_add]
    rw [ez] at key
    exact key _ w' hall hC'
end
open Go.ChangeShapes Go.WideShapes Go.ChangeAt
/-- A slice of so many elements. -/
def kSl (m : Nat) : Sp := ⟨fun v => ∃ (A : Option Addr) (c : Nat), v = .slice A m c, fun _ _ => True, .slice none m 0⟩
theorem kSl_ok (m : Nat) : (kSl m).ok := ⟨⟨none, 0, rfl⟩, fun _ _ _ _ _ => trivial⟩
/-- A map. -/
def kMp : Sp := ⟨fun v => ∃ r : Nat, v = .map (some r), fun _ _ => True, .map (some 0)⟩
theorem kMp_ok : kMp.ok := ⟨⟨0, rfl⟩, fun _ _ _ _ _ => trivial⟩
section
variable {α : Type} {k : Nat} {en : α → List Value} {E L : TypeId} {S : Nat → Prop} {w : World} {a : Act} {dst : Option Tmp} {ty : TypeId} {pos : String} {after : Array Edge} {gd : Option (Nat × Bool)} {R : Value → World → Prop} {o1 o2 : Operand} {v : Value} {l m : List α} {A : Option Addr} {n cap B : Nat}
/-- An append's result lies where the slice lay, or anew. -/
theorem run_appX_where (hE : EltX E k en) (hu : Try.prog.underlying L = some (.slice E)) (hown : OwnX E k en w B v l) (hm : Sli k en S w A m n cap) (hsz : l.length + n ≤ 1000000) (hk : k ≤ 1000) {v' : Value} {w' : World}
    (hr : (Builtin.append_ #[L, L] ty #[v, .slice A n cap]).run Try.prog w = .ok v' w') : v'.ownBlock = v.ownBlock ∨ v'.ownBlock = some w.heap.size := by
  obtain ⟨i, z, hi, hz, h1, h2, h3⟩ := hE.info
  cases A with
  | none =>
    obtain ⟨rfl, rfl⟩ := hm.none rfl
    rw [run_append_owned_none (P := Try.prog) w B L ty E i k hu hi v l.length _ hown] at hr
    cases hr
    exact .inl rfl
  | some ad =>
    have hbytes : (l.length + n) * i.bytes ≤ 140737488355328 := Nat.le_trans (Nat.mul_le_mul hsz (Nat.le_trans h2 (show 16 * k + 16 ≤ 16016 by omega))) (by omega)
    have hl1 : (m.flatMap en).length = n * i.size := by rw [flat_len hE.len, hm.len, h1]
    have hne := flat_read hE hm
    have hone : ∀ u ∈ m.flatMap en, u.oneCell' = true := fun u hu => by obtain ⟨x, _, hx⟩ := List.mem_flatMap.1 hu; exact hE.one x u hx
    rcases hown.2 with ⟨rfl, h0⟩ | ⟨g, c, cur, rfl, hB, hg, hnc, hcm, hcs, ht⟩
    · by_cases hn0 : n = 0
      · subst hn0
        have hn : m = [] := List.eq_nil_of_length_eq_zero hm.len
        subst hn
        left
        have hrun : (Builtin.append_ #[L, L] ty #[.slice none 0 0, .slice (some ad) 0 cap]).run Try.prog w = .ok (.slice none 0 0) w := by
          simp [Builtin.append_, run_underlying hu, sizeOf, typeInfo, hi, Builtin.lenOf, Builtin.firstCells, loadCells, loadCellsFrom]
        rw [hrun] at hr
        cases hr
        rfl
      · right
        rw [h0, Nat.zero_add] at hbytes
        have hrun := run_append_nil (P := Try.prog) w L ty E i z hu hi hz ad n cap _ hl1 hne (by omega) (by omega) (by omega)
        rw [hrun] at hr
        cases hr
        rfl
    · by_cases hroom : l.length + n ≤ c
      · left
        have hrun := run_append_room (P := Try.prog) w L ty E i hu hi g l.length c cur hg ad n cap _ hl1 hne hone hroom (by
          rw [h1, flat_len hE.len, hm.len, hcs, ← Nat.add_mul]; exact Nat.mul_le_mul_right k hroom)
        rw [hrun] at hr
        cases hr
        rfl
      · right
        have hown' : w.ownsRow B E i.size (.slice (some ⟨g, 0, none⟩) l.length c) l.length (l.flatMap en) := by rw [h1]; exact hown
        have holds : ∀ j u, (l.flatMap en)[j]? = some u → w.cell? ((⟨g, 0, none⟩ : Addr).add j) = some u := hown'.cells (g := g) rfl
        have hrun := run_append_grow (P := Try.prog) w L ty E i z hu hi hz ⟨g, 0, none⟩ l.length c (l.flatMap en) (by rw [flat_len hE.len, h1]) holds ad n cap _ hl1 hne (by omega) (by omega) (growslice_fits (by omega) hbytes)
        rw [hrun] at hr
        cases hr
        rfl
theorem gE_appW (hE : EltX E k en) (hu : Try.prog.underlying L = some (.slice E)) (hx : a.eval o1 = v) (hy : a.eval o2 = .slice A n cap) (hown : OwnX E k en w B v l) (hm : Sli k en S w A m n cap) (hsz : l.length + n ≤ 1000000) (hk : k ≤ 1000) (hB : B ≤ w.heap.size)
    (hR : ∀ v' w', OwnX E k en w' B v' (l ++ m) → w.grownBy w' v.ownBlock → (v'.ownBlock = v.ownBlock ∨ v'.ownBlock = some w.heap.size) → R v' w') :
    GivesE Try.prog ⟨dst, .call { callee := .builtin .append, args := #[o1, o2], argTypes := #[L, L] }, ty, pos, after, gd⟩ a w R := by
  obtain ⟨v', w', hr, h1, h2⟩ := run_appX (ty := ty) hE hu hown hm hsz hk hB
  have h3 := run_appX_where hE hu hown hm hsz hk hr
  unfold GivesE execOp
  simp only [resolve, invoke, builtin, Sem.run_bind, Sem.run_pure, Result.andThen_ok, List.map_toArray, List.map_cons, List.map_nil, hx, hy, hr]
  exact hR v' w' h1 h2 h3
end
/-- What holds in the midst of an append of one element to a slice of the member's own. -/
structure ApC {α : Type} (E : TypeId) (k : Nat) (en : α → List Value) (w0 : World) (vl : Value) (l : List α) (x : α) (d8 d9 : Bool) (v8 v9 : Value) (w' : World) : Prop where
  t : Turn (fun b => vl.ownBlock = some b) w0 w'
  b : d9 = false → Below w0.heap.size w0 w'
  lit : d8 = true → d9 = false → ∃ A c, v8 = .slice A 1 c ∧ Sli k en (fun b => w0.heap.size ≤ b) w' A [x] 1 c
  own : d9 = true → OwnX E k en w' 0 v9 (l ++ [x]) ∧ ∀ b, v9.ownBlock = some b → vl.ownBlock = some b ∨ w0.heap.size ≤ b
end Go.Proofs.Ytlbfjnddbdpdpaa
set_option maxRecDepth 100000
namespace Go.Proofs.Ytlbfjnddbdpdpaa
open Go.ChangeShapes Go.WideShapes Go.ChangeAt Go.RowKit
attribute [local go_sem] Gives
namespace StM
abbrev tyQ : TypeId := 56
def boL (b : Bool) : List Value := [.bool b]
theorem eltBo : EltX 4 1 boL where
  pos := by omega
  len := fun _ => rfl
  one p u hu := by
    simp only [boL, List.mem_cons, List.not_mem_nil, or_false] at hu
    subst hu; rfl
  info := elt_info (by kernel_rfl) (by kernel_rfl) (by kernel_rfl)
theorem undBo : Try.prog.underlying 54 = some (.slice 4) := Try.underlying54
def secL (f : Nat → Nat) : List Value := (sec f).toList
theorem eltSe : EltX 32 64 secL where
  pos := by omega
  len := fun f => by unfold secL; rw [Array.length_toList, size_sec]
  one f u hu := (Array.all_eq_true_iff_forall_mem.1 (sec_one (f := f))) u (by simpa [secL] using hu)
  info := elt_info (by kernel_rfl) (by kernel_rfl) (by kernel_rfl)
theorem undSe : Try.prog.underlying 53 = some (.slice 32) := Try.underlying53
/-- So many bools. -/
def bls (n : Nat) (M : Nat → Bool) : List Value := (List.range n).map fun j => .bool (M j)
theorem flat_bls (n : Nat) (M : Nat → Bool) : ((List.range n).map M).flatMap boL = bls n M := by
  unfold bls
  induction List.range n with
  | nil => rfl
  | cons a t ih => simp only [List.map_cons, List.flatMap_cons, ih]; rfl
abbrev OwnM (w : World) (v : Value) (n : Nat) (M : Nat → Bool) : Prop := w.ownsRow 0 4 1 v n (bls n M)
theorem OwnM.x {w : World} {v : Value} {n : Nat} {M : Nat → Bool} (h : OwnM w v n M) : OwnX 4 1 boL w 0 v ((List.range n).map M) := by
  unfold OwnX
  rw [flat_bls, List.length_map, List.length_range]
  exact h
theorem OwnM.of {w : World} {v : Value} {n : Nat} {M : Nat → Bool} (h : OwnX 4 1 boL w 0 v ((List.range n).map M)) : OwnM w v n M := by
  unfold OwnX at h
  rw [flat_bls, List.length_map, List.length_range] at h
  exact h
theorem OwnM.mono {w : World} {v : Value} {n : Nat} {M N : Nat → Bool} (h : OwnM w v n M) (he : ∀ j, j < n → N j = M j) : OwnM w v n N := by
  have : bls n N = bls n M := by
    unfold bls
    exact List.map_congr_left fun j hj => by rw [he j (List.mem_range.1 hj)]
  unfold OwnM
  rw [this]
  exact h
/-- The document's row: in block g; its columns in block gc, what is lost in block gg. -/
structure Rq (w : World) (g gc cc gg cg : Nat) (s : Rw) : Prop where
  blk : Blk w g tyQ #[.slice (some ⟨gc, 0, none⟩) s.n cc, .slice (some ⟨gg, 0, none⟩) s.n cg]
  cols : OwnS w 0 (.slice (some ⟨gc, 0, none⟩) s.n cc) s.n s.F
  gone : OwnM w (.slice (some ⟨gg, 0, none⟩) s.n cg) s.n s.M
theorem ownS_turn {T : Nat → Prop} {w w' : World} {B n : Nat} {v : Value} {F : Nat → Nat → Nat} (h : OwnS w B v n F) (ht : Turn T w w') (hd : ∀ b, v.ownBlock = some b → ¬ T b) : OwnS w' B v n F := by
  refine ⟨h.1, ?_⟩
  rcases h.2 with hn | ⟨g, cap, cur, rfl, hb, hgg, rest⟩
  · exact .inl hn
  · exact .inr ⟨g, cap, cur, rfl, hb, (ht.block g (Blk.lt (t := 32) (cs := cur) hgg) (hd g rfl)).trans hgg, rest⟩
section
variable {w w' : World} {g gc cc gg cg : Nat} {s : Rw}
theorem Rq.turn {T : Nat → Prop} (H : Rq w g gc cc gg cg s) (ht : Turn T w w') (h1 : ¬ T g) (h2 : ¬ T gc) (h3 : ¬ T gg) : Rq w' g gc cc gg cg s :=
  ⟨H.blk.turn ht h1, ownS_turn H.cols ht fun b e => by cases e; exact h2, OwnM.of (H.gone.x.turn ht fun b e => by cases e; exact h3)⟩
theorem Rq.on (H : Rq w g gc cc gg cg s) (hb : Below w.heap.size w w') : Rq w' g gc cc gg cg s := H.turn (Turn.of_new (S := fun _ => False) hb) (fun e => e) (fun e => e) fun e => e
theorem Rq.drew (H : Rq w g gc cc gg cg s) : Rq w.drew g gc cc gg cg s := H.turn (Turn.drew (S := fun _ => False) w) (fun e => e) (fun e => e) fun e => e
theorem Rq.gLt (H : Rq w g gc cc gg cg s) : g < w.heap.size := H.blk.lt
theorem Rq.cLt (H : Rq w g gc cc gg cg s) : gc < w.heap.size := (own_lt H.cols).1
theorem Rq.oLt (H : Rq w g gc cc gg cg s) : gg < w.heap.size := (H.gone.x.own gg rfl).2
theorem Rq.cc' (H : Rq w g gc cc gg cg s) : s.n ≤ cc := (own_lt H.cols).2.2
theorem ownX_blk {α : Type} {en : α → List Value} {E : TypeId} {k B n c b : Nat} {l : List α} (h : OwnX E k en w B (.slice (some ⟨b, 0, none⟩) n c) l) : ∃ cs, Blk w b E cs := by
  rcases h.2 with ⟨h', _⟩ | ⟨g', cap', cur, hv, _, hg, _⟩
  · cases h'
  simp only [Value.slice.injEq, Option.some.injEq, Addr.mk.injEq, and_true, true_and] at hv
  obtain ⟨rfl, _, rfl⟩ := hv
  exact ⟨cur, hg⟩
theorem Rq.ne1 (H : Rq w g gc cc gg cg s) : g ≠ gc := own_ne H.cols H.blk (by decide)
theorem Rq.ne2 (H : Rq w g gc cc gg cg s) : gg ≠ gc := by
  obtain ⟨cs, hb⟩ := ownX_blk H.gone.x
  exact own_ne H.cols hb (by decide)
theorem Rq.ne3 (H : Rq w g gc cc gg cg s) : g ≠ gg := fun e => by
  obtain ⟨cs, hb⟩ := ownX_blk H.gone.x
  subst e
  exact absurd (Blk.ty H.blk hb) (by decide)
theorem Rq.q0 (H : Rq w g gc cc gg cg s) : w.cell? ⟨g, 0, none⟩ = some (.slice (some ⟨gc, 0, none⟩) s.n cc) := H.blk.cell 0
theorem Rq.q1 (H : Rq w g gc cc gg cg s) : w.cell? ⟨g, 1, none⟩ = some (.slice (some ⟨gg, 0, none⟩) s.n cg) := H.blk.cell 1
/-- Column j is lost, or not. -/
theorem Rq.at' (H : Rq w g gc cc gg cg s) {j : Nat} (hj : j < s.n) : w.cell? ⟨gg, j, none⟩ = some (.bool (s.M j)) := by
  obtain ⟨A, c, e, hs⟩ := OwnX.sli (k := 1) (en := boL) (fun _ => rfl) H.gone.x
  simp only [Value.slice.injEq] at e
  obtain ⟨rfl, e3, rfl⟩ := e
  obtain ⟨b, o, e2, _, _, hr⟩ := hs.some (i := j) (x := s.M j) (by rw [List.getElem?_map, List.getElem?_range hj]; rfl)
  cases e2
  have := hr 0 (.bool (s.M j)) rfl
  rwa [Nat.zero_add, Nat.mul_one, Nat.add_zero] at this
theorem Rq.fro (H : Rq w g gc cc gg cg s) (j : Nat) : w.frozen? ⟨gg, j, none⟩ = false := World.ownsRow.frozenAt H.gone j
theorem Rq.secs (H : Rq w g gc cc gg cg s) : Secs w w.heap.size (some ⟨gc, 0, none⟩) s.n s.F := H.cols.secs.1
theorem Rq.col (H : Rq w g gc cc gg cg s) {j : Nat} (hj : j < s.n) : w.rangeAt gc (j * 64) (sec (s.F j)).toList := by
  have := own_range H.cols hj
  rwa [Nat.zero_add] at this
/-- A row's flag is turned. -/
theorem Rq.flag (H : Rq w g gc cc gg cg s) {j : Nat} (hj : j < s.n) (q : Bool) : Rq (w.setCell ⟨gg, j, none⟩ (.bool q)) g gc cc gg cg { s with M := fun i => if i = j then q else s.M i } := by
  have ht := Turn.setCell (S := fun k => k = gg) w ⟨gg, j, none⟩ (.bool q) rfl
  refine ⟨H.blk.turn ht H.ne3, ownS_turn H.cols ht fun b e => by cases e; exact H.ne2.symm, ?_⟩
  have h1 := (World.ownsRow.stored H.gone j (.bool q)).1
  have he : (bls s.n s.M).set j (.bool q) = bls s.n fun i => if i = j then q else s.M i := by
    apply List.ext_getElem?
    intro i
    unfold bls
    rw [List.getElem?_set]
    simp only [List.length_map, List.length_range, List.getElem?_map]
    by_cases hij : j = i
    · subst hij
      rw [if_pos rfl, if_pos hj, List.getElem?_range hj]
      simp
    · rw [if_neg hij]
      by_cases hi : i < s.n
      · rw [List.getElem?_range hi]
        simp [Ne.symm hij]
      · rw [List.getElem?_eq_none (by simp; omega)]
        rfl
  rw [he] at h1
  exact h1
theorem Rq.mono (H : Rq w g gc cc gg cg s) {F : Nat → Nat → Nat} {M : Nat → Bool} (hF : ∀ i k, i < s.n → k < 64 → F i k = s.F i k) (hM : ∀ j, j < s.n → M j = s.M j) : Rq w g gc cc gg cg { s with F := F, M := M } :=
  ⟨H.blk, H.cols.mono hF, H.gone.mono hM⟩
/-- Other columns are laid down. -/
theorem Rq.lay (H : Rq w g gc cc gg cg s) {g2 c2 B : Nat} {F : Nat → Nat → Nat} (ho : OwnS w B (.slice (some ⟨g2, 0, none⟩) s.n c2) s.n F) :
    Rq (w.setCell ⟨g, 0, none⟩ (.slice (some ⟨g2, 0, none⟩) s.n c2)) g g2 c2 gg cg { s with F := F } := by
  have ht := Turn.setCell (S := fun k => k = g) w ⟨g, 0, none⟩ (.slice (some ⟨g2, 0, none⟩) s.n c2) rfl
  have h0 : OwnS w 0 (.slice (some ⟨g2, 0, none⟩) s.n c2) s.n F := ⟨ho.1, ho.2.imp id fun ⟨g', cap, cur, hv, _, rest⟩ => ⟨g', cap, cur, hv, Nat.zero_le _, rest⟩⟩
  have hne : g ≠ g2 := own_ne h0 H.blk (by decide)
  exact ⟨H.blk.setCell_same 0 _, ownS_turn h0 ht fun b e => by cases e; exact hne.symm, OwnM.of (H.gone.x.turn ht fun b e => by cases e; exact H.ne3.symm)⟩
end
end StM
end Go.Proofs.Ytlbfjnddbdpdpaa
set_option maxRecDepth 100000
namespace Go.Proofs.Ytlbfjnddbdpdpaa
open Go.ChangeShapes Go.WideShapes Go.ChangeAt Go.RowKit
namespace StM
/-- The lost columns as ints. -/
def Rw.lz (s : Rw) : List Int := s.lost.map fun j : Nat => (j : Int)
section
variable {s : Rw}
theorem lz_len : s.lz.length = s.lost.length := List.length_map _
theorem lz_mem {z : Int} : z ∈ s.lz ↔ ∃ j : Nat, z = j ∧ j < s.n ∧ s.M j = true := by
  unfold Rw.lz Rw.lost
  rw [List.mem_map]
  constructor
  · rintro ⟨j, hj, rfl⟩
    exact ⟨j, rfl, gaps_mem.1 hj⟩
  · rintro ⟨j, rfl, hj⟩
    exact ⟨j, gaps_mem.2 hj, rfl⟩
theorem lz_up : s.lz.Pairwise (· < ·) := by
  unfold Rw.lz Rw.lost gapsL
  refine List.pairwise_map.2 ?_
  exact (List.pairwise_lt_range.filter _).imp fun {a b} hab => by omega
theorem lz_uniq : uniq s.lz = s.lz := up_same (uniq_up _) lz_up fun z => mem_uniq
theorem lz_mk (h : s.ok) : mk s.lz = s.M := funext fun j => by
  cases hm : s.M j with
  | true =>
    have hj : j < s.n := by
      rcases Nat.lt_or_ge j s.n with e | e
      · exact e
      · rw [h.out j e] at hm; cases hm
    exact mk_iff.2 (lz_mem.2 ⟨j, rfl, hj, hm⟩)
  | false =>
    cases he : mk s.lz j with
    | false => rfl
    | true =>
      obtain ⟨i, e, _, hi⟩ := lz_mem.1 (mk_iff.1 he)
      have : j = i := by omega
      rw [this, hi] at hm; cases hm
theorem lz_in : ∀ x, x ∈ s.lz → 0 ≤ x ∧ x < s.n := fun x hx => by
  obtain ⟨j, rfl, hj, _⟩ := lz_mem.1 hx
  omega
theorem lz_out : anyOut s.n s.lz.length (fun i => s.lz.getD i 0) = false := anyOut_iff.2 fun i hi => by
  have := lz_in (s := s) (s.lz.getD i 0) (by
    rw [List.getD_eq_getElem?_getD, List.getElem?_eq_getElem hi, Option.getD_some]
    exact List.getElem_mem hi)
  exact this
theorem lz_cnt (h : s.ok) : cntM s.M = s.lost.length := by
  have := cnt_uniq (l := s.lz) (N := s.n) h.hi lz_in
  rw [lz_mk h, lz_uniq, lz_len] at this
  exact this
theorem none_lost (h : s.ok) (e : s.lost = []) : s.M = fun _ => false := by
  rw [← lz_mk h]
  exact mk_empty (by unfold Rw.lz; rw [e]; rfl)
theorem mend_none (h : s.ok) (e : s.lost = []) : mendF s = s.F := by
  unfold mendF
  rw [none_lost h e, mendD_none, mendP_none rfl rfl]
variable {A A' : Option Addr} {cap c : Nat} {w : World}
theorem rfix_st (h : s.ok) (hl : IntL w w.heap.size A' s.lz) (hS : Secs w w.heap.size A s.n s.F) :
    Calls Try.prog 33 #[.slice A s.n cap, .slice A' s.lost.length c] w fun e w' => (s.full ∧ FixBad 7 w e w') ∨ (¬ s.full ∧ FixGood s.n (mendF s) w e w') := by
  have h4 := h.lo
  have h6 := h.hi
  have hn : s.lost.length ≤ s.n := gapsL_le _ _
  obtain ⟨m, hm⟩ : ∃ m, s.n = m + 2 := ⟨s.n - 2, by omega⟩
  by_cases hf : s.full
  · refine (rfix_full A A' s.n cap s.lost.length c s.lz lz_len (by omega) (by omega) w hl (by omega) lz_out h6 (by rw [lz_uniq, lz_len]; exact hf)).mono fun e w' h => .inl ⟨hf, h⟩
  · have hf' : s.lost.length ≤ 2 := by unfold Rw.full at hf; omega
    refine Calls.mono ?_ fun e w' h => .inr ⟨hf, h⟩
    have hO := lz_out (s := s)
    rw [hm] at hO hS ⊢
    cases hz : (uniq s.lz).length with
    | zero =>
      have he : s.lost = [] := List.eq_nil_of_length_eq_zero (by rw [lz_uniq, lz_len] at hz; exact hz)
      rw [mend_none h he]
      exact rfix_none A A' m cap s.lost.length c s.lz s.F h.by' lz_len (by omega) (by omega) (by omega) w hl hS hz
    | succ k =>
      refine (rfix_some A A' m cap s.lost.length c k s.lz s.F h.by' lz_len (by omega) (by omega) (by omega) w hl hS hO hz (by rw [lz_uniq, lz_len] at hz; omega)).mono ?_
      rintro e w' ⟨g, cap', e1, e2, e3⟩
      refine ⟨g, cap', e1, e2.mono fun i k hi hk => ?_, e3⟩
      rw [lz_mk h, fin_same hi hk]
      unfold mendF
      rw [hm]
      rfl
theorem fix_st (h : s.ok) (hl : IntL w w.heap.size A' s.lz) (hS : Secs w w.heap.size A s.n s.F) :
    Calls Try.prog 32 #[.slice A s.n cap, .slice A' s.lost.length c] w fun e w' => (s.full ∧ FixBad 7 w e w') ∨ (¬ s.full ∧ FixGood s.n (mendF s) w e w') := by
  have h4 := h.lo
  have h6 := h.hi
  have hn : s.lost.length ≤ s.n := gapsL_le _ _
  obtain ⟨m, hm⟩ : ∃ m, s.n = m + 2 := ⟨s.n - 2, by omega⟩
  have hl' : Ints w w.heap.size A' s.lost.length fun i => s.lz.getD i 0 := by
    have := hl
    unfold IntL at this
    rwa [lz_len] at this
  have hO := lz_out (s := s)
  rw [lz_len] at hO
  have hmk : marks s.lost.length (fun i => s.lz.getD i 0) = s.M := by
    have := lz_mk h
    unfold mk at this
    rwa [lz_len] at this
  by_cases hf : s.full
  · exact (fix_full A A' s.n cap s.lost.length c _ (by omega) (by omega) (by omega) w hl' hO h6 (by rw [hmk, lz_cnt h]; exact hf)).mono fun e w' h => .inl ⟨hf, h⟩
  · refine Calls.mono ?_ fun e w' h => .inr ⟨hf, h⟩
    rw [hm] at hO hS ⊢
    refine (fix_ok A A' m cap s.lost.length c _ s.F h.by' (by omega) (by omega) (by omega) w hl' hS hO (by rw [hmk, lz_cnt h]; unfold Rw.full at hf; omega)).mono ?_
    rintro e w' ⟨g, cap', e1, e2, e3⟩
    refine ⟨g, cap', e1, ?_, e3⟩
    rw [hmk] at e2
    unfold mendF
    rw [hm]
    exact e2
end
/-- Rising ints of one's own, as Fix wants them. -/
theorem intL_of {w : World} {B : Nat} {A : Option Addr} {c : Nat} {s : Rw} (h : OwnI w B (.slice A s.lost.length c) s.lost) : IntL w w.heap.size A s.lz := by
  intro hn
  rw [lz_len] at hn
  obtain ⟨g, c', e, hr⟩ := OwnI.get h hn
  simp only [Value.slice.injEq] at e
  obtain ⟨rfl, _, rfl⟩ := e
  refine ⟨g, 0, rfl, World.block_lt_of_cell? w _ (hr 0 hn), fun i hi => ?_⟩
  rw [lz_len] at hi
  rw [Nat.zero_add, hr i hi]
  have : ((s.lost.getD i 0 : Nat) : Int) = s.lz.getD i 0 := by
    unfold Rw.lz
    rw [List.getD_eq_getElem?_getD, List.getD_eq_getElem?_getD, List.getElem?_map, List.getElem?_eq_getElem hi]
    rfl
  rw [this]
end StM
end Go.Proofs.Ytlbfjnddbdpdpaa
set_option maxRecDepth 100000
namespace Go.Proofs.Ytlbfjnddbdpdpaa
section
variable {P : Program} {ops : Array Oper}
theorem wpK_list {C : World → Prop} {Q : Exit → Act → World → Prop} {rest : List Oper} : ∀ (l : List Oper) (a : Act) (w : World), wpK P ops C (fun a' => ∀ w', C w' → wpList P ops Q rest a' w') l a → C w → wpList P ops Q (l ++ rest) a w
  | [], _, w, h, hC => h w hC
  | o :: l, a, w, h, hC => by
    obtain ⟨v, h1, h2⟩ := h
    rw [List.cons_append, wpList]
    rcases h1 with ⟨hw, hg⟩ | ⟨hw, rfl⟩
    · rw [if_pos hw]
      exact .inl (wp_of_gives (hg w hC) fun w' hC' => wpK_list l _ w' h2 hC')
    · rw [if_neg (by rw [hw]; exact Bool.false_ne_true)]
      exact wpK_list l _ w h2 hC
theorem wp_region_fixed {id : Nat} {Q : Exit → Act → World → Prop} {C : World → Prop} {a : Act} {w : World} {l : List Oper} (n : Nat) (hC : C w)
    (h : wpK P l.toArray C (fun a' => ∀ w', C w' → wpList P l.toArray Q (l.drop n) a' w') (l.take n) a) : (Code.region id l.toArray false).wp P Q a w := by
  refine wp_region_lit ?_
  have := wpK_list _ _ _ h hC
  rwa [List.take_append_drop] at this
end
end Go.Proofs.Ytlbfjnddbdpdpaa
set_option maxRecDepth 100000
namespace Go.Proofs.Ytlbfjnddbdpdpaa
open Go.ChangeShapes Go.WideShapes Go.ChangeAt Go.RowKit
attribute [local go_sem] Gives
namespace StM
abbrev tyP : TypeId := 65
/-- The program's row: in block g; its columns in block gc, what is there in block gg. -/
structure Sq (w : World) (g gc cc gg cg : Nat) (s : Rw) : Prop where
  blk : Blk w g tyP #[.slice (some ⟨gc, 0, none⟩) s.n cc, .slice (some ⟨gg, 0, none⟩) s.n cg]
  cols : OwnS w 0 (.slice (some ⟨gc, 0, none⟩) s.n cc) s.n s.F
  gone : OwnM w (.slice (some ⟨gg, 0, none⟩) s.n cg) s.n s.M
section
variable {w w' : World} {g gc cc gg cg : Nat} {s : Rw}
theorem Sq.turn {T : Nat → Prop} (H : Sq w g gc cc gg cg s) (ht : Turn T w w') (h1 : ¬ T g) (h2 : ¬ T gc) (h3 : ¬ T gg) : Sq w' g gc cc gg cg s :=
  ⟨H.blk.turn ht h1, ownS_turn H.cols ht fun b e => by cases e; exact h2, OwnM.of (H.gone.x.turn ht fun b e => by cases e; exact h3)⟩
theorem Sq.on (H : Sq w g gc cc gg cg s) (hb : Below w.heap.size w w') : Sq w' g gc cc gg cg s := H.turn (Turn.of_new (S := fun _ => False) hb) (fun e => e) (fun e => e) fun e => e
theorem Sq.drew (H : Sq w g gc cc gg cg s) : Sq w.drew g gc cc gg cg s := H.turn (Turn.drew (S := fun _ => False) w) (fun e => e) (fun e => e) fun e => e
theorem Sq.gLt (H : Sq w g gc cc gg cg s) : g < w.heap.size := H.blk.lt
theorem Sq.cLt (H : Sq w g gc cc gg cg s) : gc < w.heap.size := (own_lt H.cols).1
theorem Sq.oLt (H : Sq w g gc cc gg cg s) : gg < w.heap.size := (H.gone.x.own gg rfl).2
theorem Sq.cc' (H : Sq w g gc cc gg cg s) : s.n ≤ cc := (own_lt H.cols).2.2
theorem Sq.ne1 (H : Sq w g gc cc gg cg s) : g ≠ gc := own_ne H.cols H.blk (by decide)
theorem Sq.ne2 (H : Sq w g gc cc gg cg s) : gg ≠ gc := by
  obtain ⟨cs, hb⟩ := ownX_blk H.gone.x
  exact own_ne H.cols hb (by decide)
theorem Sq.ne3 (H : Sq w g gc cc gg cg s) : g ≠ gg := fun e => by
  obtain ⟨cs, hb⟩ := ownX_blk H.gone.x
  subst e
  exact absurd (Blk.ty H.blk hb) (by decide)
theorem Sq.q0 (H : Sq w g gc cc gg cg s) : w.cell? ⟨g, 0, none⟩ = some (.slice (some ⟨gc, 0, none⟩) s.n cc) := H.blk.cell 0
theorem Sq.q1 (H : Sq w g gc cc gg cg s) : w.cell? ⟨g, 1, none⟩ = some (.slice (some ⟨gg, 0, none⟩) s.n cg) := H.blk.cell 1
/-- Column j is lost, or not. -/
theorem Sq.at' (H : Sq w g gc cc gg cg s) {j : Nat} (hj : j < s.n) : w.cell? ⟨gg, j, none⟩ = some (.bool (s.M j)) := by
  obtain ⟨A, c, e, hs⟩ := OwnX.sli (k := 1) (en := boL) (fun _ => rfl) H.gone.x
  simp only [Value.slice.injEq] at e
  obtain ⟨rfl, e3, rfl⟩ := e
  obtain ⟨b, o, e2, _, _, hr⟩ := hs.some (i := j) (x := s.M j) (by rw [List.getElem?_map, List.getElem?_range hj]; rfl)
  cases e2
  have := hr 0 (.bool (s.M j)) rfl
  rwa [Nat.zero_add, Nat.mul_one, Nat.add_zero] at this
theorem Sq.fro (H : Sq w g gc cc gg cg s) (j : Nat) : w.frozen? ⟨gg, j, none⟩ = false := World.ownsRow.frozenAt H.gone j
theorem Sq.secs (H : Sq w g gc cc gg cg s) : Secs w w.heap.size (some ⟨gc, 0, none⟩) s.n s.F := H.cols.secs.1
theorem Sq.col (H : Sq w g gc cc gg cg s) {j : Nat} (hj : j < s.n) : w.rangeAt gc (j * 64) (sec (s.F j)).toList := by
  have := own_range H.cols hj
  rwa [Nat.zero_add] at this
/-- A row's flag is turned. -/
theorem Sq.flag (H : Sq w g gc cc gg cg s) {j : Nat} (hj : j < s.n) (q : Bool) : Sq (w.setCell ⟨gg, j, none⟩ (.bool q)) g gc cc gg cg { s with M := fun i => if i = j then q else s.M i } := by
  have ht := Turn.setCell (S := fun k => k = gg) w ⟨gg, j, none⟩ (.bool q) rfl
  refine ⟨H.blk.turn ht H.ne3, ownS_turn H.cols ht fun b e => by cases e; exact H.ne2.symm, ?_⟩
  have h1 := (World.ownsRow.stored H.gone j (.bool q)).1
  have he : (bls s.n s.M).set j (.bool q) = bls s.n fun i => if i = j then q else s.M i := by
    apply List.ext_getElem?
    intro i
    unfold bls
    rw [List.getElem?_set]
    simp only [List.length_map, List.length_range, List.getElem?_map]
    by_cases hij : j = i
    · subst hij
      rw [if_pos rfl, if_pos hj, List.getElem?_range hj]
      simp
    · rw [if_neg hij]
      by_cases hi : i < s.n
      · rw [List.getElem?_range hi]
        simp [Ne.symm hij]
      · rw [List.getElem?_eq_none (by simp; omega)]
        rfl
  rw [he] at h1
  exact h1
theorem Sq.mono (H : Sq w g gc cc gg cg s) {F : Nat → Nat → Nat} {M : Nat → Bool} (hF : ∀ i k, i < s.n → k < 64 → F i k = s.F i k) (hM : ∀ j, j < s.n → M j = s.M j) : Sq w g gc cc gg cg { s with F := F, M := M } :=
  ⟨H.blk, H.cols.mono hF, H.gone.mono hM⟩
theorem Sq.put {w w' : World} {g gc cc gg cg : Nat} {s : Rw} {j : Nat} {x : Nat → Nat} (H : Sq w g gc cc gg cg s) (ho : OwnS w' 0 (.slice (some ⟨gc, 0, none⟩) s.n cc) s.n (upd s.F j x)) (hg : w.grownBy w' (some gc)) : Sq w' g gc cc gg cg { s with F := upd s.F j x } ∧ Turn (fun k => k = gc) w w' := by
  have ht := Turn.of_grown (S := fun k => k = gc) hg fun k e => by cases e; rfl
  exact ⟨⟨H.blk.turn ht H.ne1, ho, OwnM.of (H.gone.x.turn ht fun b e => by cases e; exact H.ne2)⟩, ht⟩
end
/-- v is a row of n columns; none has no columns. -/
def Cn (w : World) (v : Value) (n : Nat) : Prop := (v = .pointer none ∧ n = 0) ∨ ∃ (g : Nat) (A : Option Addr) (c : Nat), v = .pointer (some ⟨g, 0, none⟩) ∧ w.cell? ⟨g, 0, none⟩ = some (.slice A n c)
theorem Cn.turn {T : Nat → Prop} {w w' : World} {v : Value} {n : Nat} (h : Cn w v n) (ht : Turn T w w') (hd : ∀ g, v = .pointer (some ⟨g, 0, none⟩) → ¬ T g) : Cn w' v n := by
  rcases h with h | ⟨g, A, c, rfl, hc⟩
  · exact .inl h
  · exact .inr ⟨g, A, c, rfl, ht.cell hc (hd g rfl)⟩
theorem Cn.on {w w' : World} {v : Value} {n : Nat} (h : Cn w v n) (hb : Below w.heap.size w w') : Cn w' v n := h.turn (Turn.of_new (S := fun _ => False) hb) fun _ _ e => e
theorem Cn.lt {w : World} {v : Value} {n : Nat} (h : Cn w v n) : ∀ g, v = .pointer (some ⟨g, 0, none⟩) → g < w.heap.size := by
  rcases h with ⟨rfl, _⟩ | ⟨g, A, c, rfl, hc⟩
  · intro g e; cases e
  · intro g' e; cases e; exact World.block_lt_of_cell? w _ hc
theorem Sq.cn {w : World} {g gc cc gg cg : Nat} {s : Rw} (H : Sq w g gc cc gg cg s) : Cn w (.pointer (some ⟨g, 0, none⟩)) s.n := .inr ⟨g, _, _, rfl, H.q0⟩
theorem columns_any {w : World} {v : Value} {n : Nat} (h : Cn w v n) : Calls Try.prog 26 #[v] w fun e w' => e = .returned (.int .i64 n) ∧ w = w' := by
  rcases h with ⟨rfl, rfl⟩ | ⟨g, A, c, rfl, q0⟩
  · go_enter Try.func26, Try.ntmps26
    go_wp2_with fail
    go_ret
    exact ⟨rfl, rfl⟩
  · go_enter Try.func26, Try.ntmps26
    go_wp2_with fail
    go_ret
    exact ⟨rfl, rfl⟩
theorem made_any' {w : World} {v : Value} {n : Nat} (h : Cn w v n) : Calls Try.prog 31 #[v] w fun e w' => e = .returned (.bool (decide (0 < n))) ∧ w = w' := by
  have H := hid h
  clear h
  by_cases h : 0 < n
  · have t1 : (0 : Int) < n := by omega
    rw [decide_eq_true h]
    go_enter Try.func31, Try.ntmps31
    go_wp2_with fail
    refine (columns_any H.out).mono ?_
    rintro e w1 ⟨rfl, rfl⟩
    go_wp2_with fail
    go_ret
    exact ⟨rfl, rfl⟩
  · have t1 : ¬ (0 : Int) < n := by omega
    rw [decide_eq_false h]
    go_enter Try.func31, Try.ntmps31
    go_wp2_with fail
    refine (columns_any H.out).mono ?_
    rintro e w1 ⟨rfl, rfl⟩
    go_wp2_with fail
    go_ret
    exact ⟨rfl, rfl⟩
def findE (n : Nat) (c m : Int) : Nat := if n = 0 then 1 else if 0 ≤ c ∧ c < m then 0 else 2
set_option maxHeartbeats 400000 in
theorem find_any {w : World} {v : Value} {n : Nat} (h : Cn w v n) (c m : Int) : Calls Try.prog 34 #[v, .int .i64 c, .int .i64 m] w fun e w' => e = .returned (.int .i64 (findE n c m)) ∧ w = w' := by
  have H := hid h
  clear h
  by_cases h : 0 < n
  · have hm := hid (made_any' H.out)
    have hn := hid (show findE n c m = if 0 ≤ c ∧ c < m then 0 else 2 by unfold findE; rw [if_neg (by omega)])
    rw [decide_eq_true h] at hm
    clear h
    by_cases h0 : c < 0
    · have hf := hid (show findE n c m = 2 by rw [hn.out, if_neg (by omega)])
      go_enter Try.func34, Try.ntmps34
      go_wp2_with fail
      refine hm.out.mono ?_
      rintro e w1 ⟨rfl, rfl⟩
      go_wp2_with fail
      go_ret
      exact ⟨by rw [hf.out]; rfl, rfl⟩
    · by_cases h1 : c < m
      · have hf := hid (show findE n c m = 0 by rw [hn.out, if_pos (by omega)])
        have t1 : ¬ m ≤ c := by omega
        go_enter Try.func34, Try.ntmps34
        go_wp2_with fail
        refine hm.out.mono ?_
        rintro e w1 ⟨rfl, rfl⟩
        go_wp2_with fail
        go_ret
        exact ⟨by rw [hf.out]; rfl, rfl⟩
      · have hf := hid (show findE n c m = 2 by rw [hn.out, if_neg (by omega)])
        have t1 : m ≤ c := by omega
        go_enter Try.func34, Try.ntmps34
        go_wp2_with fail
        refine hm.out.mono ?_
        rintro e w1 ⟨rfl, rfl⟩
        go_wp2_with fail
        go_ret
        exact ⟨by rw [hf.out]; rfl, rfl⟩
  · have hm := hid (made_any' H.out)
    have hf := hid (show findE n c m = 1 by unfold findE; rw [if_pos (by omega)])
    rw [decide_eq_false h] at hm
    clear h
    go_enter Try.func34, Try.ntmps34
    go_wp2_with fail
    refine hm.out.mono ?_
    rintro e w1 ⟨rfl, rfl⟩
    go_wp2_with fail
    go_ret
    exact ⟨by rw [hf.out]; rfl, rfl⟩
end StM
end Go.Proofs.Ytlbfjnddbdpdpaa
set_option maxRecDepth 100000
namespace Go.Proofs.Ytlbfjnddbdpdpaa
open Go.ChangeShapes Go.WideShapes Go.ChangeAt Go.RowKit
attribute [local go_sem] Gives
namespace StM
theorem ret_sect {a : Act} {w : World} {g : Nat} {f : Nat → Nat} {fn : Func} {R : Ending → World → Prop} {p t : Tmp} {v : Value} (hr : fn.results = #[.cell p 32, .tmp t]) (hp : a.tmps.getD p undef = .pointer (some ⟨g, 0, none⟩))
    (ht : a.tmps.getD t undef = v) (hdf : a.defers = []) (hb : Blk w g 32 (sec f)) (hR : R (.returned (.tuple #[.agg (sec f), v])) w) : bodyPost Try.prog fn R .ret a w := by
  refine bodyPost_ret ?_ hdf hR
  have hv : (loadVar 32 ⟨g, 0, none⟩).run Try.prog w = .ok (.agg (sec f)) w :=
    run_loadVar_row w g 32 32 (sec f) (0, 0) _ hb Try.underlying32 rfl (info_sec.trans (by rw [size_sec]))
  have hp' : a.tmps[p]?.getD undef = .pointer (some ⟨g, 0, none⟩) := by simpa using hp
  have ht' : a.tmps[t]?.getD undef = v := by simpa using ht
  simp [results, hr, hp', ht', asAddr, hv]
section
variable {w : World} {g gc cc gg cg : Nat} {s : Rw}
theorem rhas_any (H : Rq w g gc cc gg cg s) (c : Int) : Calls Try.prog 30 #[.pointer (some ⟨g, 0, none⟩), .int .i64 c] w fun e w' => e = .returned (.bool (decide (s.has c))) ∧ w = w' := by
  have q0 := H.q0
  by_cases h : s.has c
  · rw [decide_eq_true h]
    have h1 := h.1
    have h2 := h.2
    go_enter Try.func30, Try.ntmps30
    go_wp2_with fail
    go_ret
    exact ⟨rfl, rfl⟩
  · rw [decide_eq_false h]
    by_cases h1 : (0 : Int) ≤ c
    · have h2 : ¬ c < (s.n : Int) := fun e => h ⟨h1, e⟩
      go_enter Try.func30, Try.ntmps30
      go_wp2_with fail
      go_ret
      exact ⟨rfl, rfl⟩
    · go_enter Try.func30, Try.ntmps30
      go_wp2_with fail
      go_ret
      exact ⟨rfl, rfl⟩
/-- What a call leaves of a row that it turns: the same block, other columns perhaps. -/
def outR (w : World) (g gc gg : Nat) (s : Rw) (w' : World) : Prop :=
  ∃ gc' cc' gg' cg', Rq w' g gc' cc' gg' cg' s ∧ (gc' = gc ∨ w.heap.size ≤ gc') ∧ (gg' = gg ∨ w.heap.size ≤ gg') ∧ Turn (fun k => k = g ∨ k = gc ∨ k = gg) w w'
set_option maxHeartbeats 400000 in
theorem rlose_any (H : Rq w g gc cc gg cg s) (c : Int) : Calls Try.prog 14 #[.pointer (some ⟨g, 0, none⟩), .int .i64 c] w fun e w' => e = .returned (.int .i64 (argE s c)) ∧ outR w g gc gg (losT s c) w' := by
  have HH := hid H
  clear H
  by_cases h : s.has c
  · obtain ⟨j, rfl⟩ : ∃ j : Nat, c = j := ⟨c.toNat, by have := h.1; omega⟩
    have hj : j < s.n := by have := h.2; omega
    have e1 : argE s j = 0 := by unfold argE; rw [if_pos h]
    have e2 : losT s j = { s with M := fun i => if i = j then true else s.M i } := by unfold losT; rw [if_pos h]; rfl
    rw [e1, e2]
    have q1 := HH.out.q1
    have q2 := HH.out.at' hj
    have q3 := HH.out.fro j
    go_enter Try.func14, Try.ntmps14
    go_wp2_with fail
    refine (rhas_any HH.out _).mono ?_
    rintro e w1 ⟨rfl, rfl⟩
    rw [decide_eq_true h]
    clear h e1 e2
    go_wp2_with fail
    go_ret
    exact ⟨rfl, gc, cc, gg, cg, HH.out.flag hj true, .inl rfl, .inl rfl, Turn.setCell _ _ _ (.inr (.inr rfl))⟩
  · have e1 : argE s c = 2 := by unfold argE; rw [if_neg h]
    have e2 : losT s c = s := by unfold losT; rw [if_neg h]
    rw [e1, e2]
    go_enter Try.func14, Try.ntmps14
    go_wp2_with fail
    refine (rhas_any HH.out _).mono ?_
    rintro e w1 ⟨rfl, rfl⟩
    rw [decide_eq_false h]
    clear h e1 e2
    go_wp2_with fail
    go_ret
    exact ⟨rfl, gc, cc, gg, cg, HH.out, .inl rfl, .inl rfl, Turn.refl _ _⟩
set_option maxHeartbeats 400000 in
theorem rget_any (H : Rq w g gc cc gg cg s) (c : Int) : Calls Try.prog 21 #[.pointer (some ⟨g, 0, none⟩), .int .i64 c] w fun e w' => e = .returned (.tuple #[.agg (sec (getS s c)), .int .i64 (getE s c)]) ∧ Below w.heap.size w w' := by
  have HH := hid H
  clear H
  by_cases h : s.has c
  · obtain ⟨j, rfl⟩ : ∃ j : Nat, c = j := ⟨c.toNat, by have := h.1; omega⟩
    have hj : j < s.n := by have := h.2; omega
    cases hm : s.M j
    · have e1 : getE s j = 0 := by unfold getE; rw [if_pos h, Int.toNat_natCast, hm]; rfl
      have e2 : getS s j = s.F j := by unfold getS; rw [if_pos ⟨h, by rw [Int.toNat_natCast]; exact hm⟩]; rfl
      rw [e1, e2]
      go_enter Try.func21, Try.ntmps21
      go_upto_region 1 with fail
      generalize hw1 : World.alloc w _ = w1
      have B1 := hid (show Below w.heap.size w w1 by rw [← hw1]; exact (Below.refl _ _).alloc (Nat.le_refl _) _)
      have b1 := hid (show Blk w1 w.heap.size 32 (sec fun _ => 0) by rw [← hw1]; exact Blk.top zlit rfl)
      have H1 := hid (HH.out.on B1.out)
      clear hw1
      have q0 := H1.out.q0
      have q1 := H1.out.q1
      have q2 := H1.out.at' hj
      rw [hm] at q2
      go_wp2_with fail
      refine (rhas_any H1.out _).mono ?_
      rintro e w2 ⟨rfl, rfl⟩
      rw [decide_eq_true h]
      clear h e1 e2 hm
      go_wp2_with (first | ((with_reducible apply ldm (o := j * 64)); rfl; exact H1.out.col hj) | ((with_reducible apply stx); rfl; rfl; exact b1.out))
      apply ret_sect Try.results21
      · rfl
      · rfl
      · rfl
      · exact b1.out.setRow_same _
      exact ⟨rfl, below_setRow B1.out (Nat.le_refl _) _⟩
    · have e1 : getE s j = 5 := by unfold getE; rw [if_pos h, Int.toNat_natCast, hm]; rfl
      have e2 : getS s j = fun _ => 0 := by unfold getS; rw [if_neg fun e => by have := e.2; rw [Int.toNat_natCast, hm] at this; cases this]
      rw [e1, e2]
      go_enter Try.func21, Try.ntmps21
      go_upto_region 1 with fail
      generalize hw1 : World.alloc w _ = w1
      have B1 := hid (show Below w.heap.size w w1 by rw [← hw1]; exact (Below.refl _ _).alloc (Nat.le_refl _) _)
      have b1 := hid (show Blk w1 w.heap.size 32 (sec fun _ => 0) by rw [← hw1]; exact Blk.top zlit rfl)
      have H1 := hid (HH.out.on B1.out)
      clear hw1
      have q0 := H1.out.q0
      have q1 := H1.out.q1
      have q2 := H1.out.at' hj
      rw [hm] at q2
      go_wp2_with fail
      refine (rhas_any H1.out _).mono ?_
      rintro e w2 ⟨rfl, rfl⟩
      rw [decide_eq_true h]
      clear h e1 e2 hm
      go_wp2_with (first | (with_reducible apply bsec) | ((with_reducible apply stx); rfl; rfl; exact b1.out))
      apply ret_sect Try.results21
      · rfl
      · rfl
      · rfl
      · exact b1.out.setRow_same _
      exact ⟨rfl, below_setRow B1.out (Nat.le_refl _) _⟩
  · have e1 : getE s c = 2 := by unfold getE; rw [if_neg h]
    have e2 : getS s c = fun _ => 0 := by unfold getS; rw [if_neg fun e => h e.1]
    rw [e1, e2]
    go_enter Try.func21, Try.ntmps21
    go_upto_region 1 with fail
    generalize hw1 : World.alloc w _ = w1
    have B1 := hid (show Below w.heap.size w w1 by rw [← hw1]; exact (Below.refl _ _).alloc (Nat.le_refl _) _)
    have b1 := hid (show Blk w1 w.heap.size 32 (sec fun _ => 0) by rw [← hw1]; exact Blk.top zlit rfl)
    have H1 := hid (HH.out.on B1.out)
    clear hw1
    go_wp2_with fail
    refine (rhas_any H1.out _).mono ?_
    rintro e w2 ⟨rfl, rfl⟩
    rw [decide_eq_false h]
    clear h e1 e2
    go_wp2_with (first | (with_reducible apply bsec) | ((with_reducible apply stx); rfl; rfl; exact b1.out))
    apply ret_sect Try.results21
    · rfl
    · rfl
    · rfl
    · exact b1.out.setRow_same _
    exact ⟨rfl, below_setRow B1.out (Nat.le_refl _) _⟩
/-- A sector is put into a column. -/
theorem sto0 {ops : Array Oper} {Q : Exit → Act → World → Prop} {a : Act} {w : World} {rest : List Oper} {dst : Option Tmp} {ty : TypeId} {pos : String} {after : Array Edge} {x y : Operand} {g n cap i B : Nat} {F : Nat → Nat → Nat} {f : Nat → Nat}
    (hx : a.eval x = .pointer (some ⟨g, i * 64, none⟩)) (hy : a.eval y = .agg (sec f)) (h : OwnS w B (.slice (some ⟨g, 0, none⟩) n cap) n F) (hi : i < n)
    (hk : ∀ w', OwnS w' B (.slice (some ⟨g, 0, none⟩) n cap) n (upd F i f) → w.grownBy w' (some g) → wpList Try.prog ops Q rest (a.put dst undef) w') :
    wpList Try.prog ops Q (⟨dst, .store 32 x y, ty, pos, after, none⟩ :: rest) a w := sto (by rw [Nat.zero_add]; exact hx) hy h hi hk
theorem Rq.put {w w' : World} {g gc cc gg cg : Nat} {s : Rw} {j : Nat} {x : Nat → Nat} (H : Rq w g gc cc gg cg s) (ho : OwnS w' 0 (.slice (some ⟨gc, 0, none⟩) s.n cc) s.n (upd s.F j x)) (hg : w.grownBy w' (some gc)) : Rq w' g gc cc gg cg { s with F := upd s.F j x } ∧ Turn (fun k => k = gc) w w' := by
  have ht := Turn.of_grown (S := fun k => k = gc) hg fun k e => by cases e; rfl
  exact ⟨⟨H.blk.turn ht H.ne1, ho, OwnM.of (H.gone.x.turn ht fun b e => by cases e; exact H.ne2)⟩, ht⟩
set_option maxHeartbeats 400000 in
theorem rput_any (H : Rq w g gc cc gg cg s) (c : Int) (x : Nat → Nat) : Calls Try.prog 12 #[.pointer (some ⟨g, 0, none⟩), .int .i64 c, .agg (sec x)] w fun e w' => e = .returned (.int .i64 (argE s c)) ∧ outR w g gc gg (putT s c x) w' := by
  have HH := hid H
  clear H
  by_cases h : s.has c
  · obtain ⟨j, rfl⟩ : ∃ j : Nat, c = j := ⟨c.toNat, by have := h.1; omega⟩
    have hj : j < s.n := by have := h.2; omega
    have e1 : argE s j = 0 := by unfold argE; rw [if_pos h]
    have e2 : putT s j x = { s with F := upd s.F j x, M := fun i => if i = j then false else s.M i } := by unfold putT; rw [if_pos h]; rfl
    rw [e1, e2]
    go_enter Try.func12, Try.ntmps12
    go_upto_region 1 with fail
    generalize hw1 : World.alloc w _ = w1
    have B1 := hid (show Below w.heap.size w w1 by rw [← hw1]; exact (Below.refl _ _).alloc (Nat.le_refl _) _)
    have b1 := hid (show Blk w1 w.heap.size 32 (sec x) by rw [← hw1]; exact Blk.top rfl rfl)
    have H1 := hid (HH.out.on B1.out)
    clear hw1
    go_wp2_with fail
    refine (rhas_any H1.out _).mono ?_
    rintro e w2 ⟨rfl, rfl⟩
    rw [decide_eq_true h]
    clear h e1 e2
    go_wp2_with fail
    refine wp_region_tail (C := fun w' => Below w1.heap.size w1 w') 7 (by kernel_rfl) (by kernel_rfl) (by kernel_rfl) (Below.refl _ _).drew ?_
    simp only [List.take_succ_cons, List.take_zero, List.drop_succ_cons, List.drop_zero]
    apply wpK_val
    · rfl
    · intro w' hw'
      go_simp
      first | exact rfl | exact ⟨rfl, hw'⟩
    simp only [Act.put, List.setIfInBounds_toArray, List.set_cons_succ, List.set_cons_zero]
    apply wpK_val
    · rfl
    · intro w' hw'
      go_simp
      first | exact rfl | exact ⟨rfl, hw'⟩
    simp only [Act.put, List.setIfInBounds_toArray, List.set_cons_succ, List.set_cons_zero]
    apply wpK_val
    · rfl
    · intro w' hw'
      go_simp
      first | exact rfl | exact ⟨rfl, hw'⟩
    simp only [Act.put, List.setIfInBounds_toArray, List.set_cons_succ, List.set_cons_zero]
    apply wpK_val
    · rfl
    · intro w' hw'
      have hcell := (H1.out.on hw').q0
      go_simp
      first | exact rfl | exact ⟨rfl, hw'⟩
    simp only [Act.put, List.setIfInBounds_toArray, List.set_cons_succ, List.set_cons_zero]
    apply wpK_val
    · rfl
    · intro w' hw'
      go_simp
      first | exact rfl | exact ⟨rfl, hw'⟩
    simp only [Act.put, List.setIfInBounds_toArray, List.set_cons_succ, List.set_cons_zero]
    apply kld
    · rfl
    · rfl
    · exact fun w' hw' => b1.out.below hw' b1.out.lt
    simp only [Act.put, List.setIfInBounds_toArray, List.set_cons_succ, List.set_cons_zero]
    apply wpK_val
    · rfl
    · intro w' hw'
      go_simp
      first | exact rfl | exact ⟨rfl, hw'⟩
    simp only [Act.put, List.setIfInBounds_toArray, List.set_cons_succ, List.set_cons_zero]
    refine wpK_nil fun w2 hw2 => ?_
    have H2 := hid (H1.out.on hw2)
    have B2 := hid (B1.out.trans (hw2.mono B1.out.size))
    clear hw2 H1
    go_wp2_with ((with_reducible apply sto0); rfl; rfl; exact H2.out.cols; exact hj; intro w3 o3 g3; have P3 := hid (H2.out.put o3 g3); have q1 : w3.cell? ⟨g, 1, none⟩ = some (.slice (some ⟨gg, 0, none⟩) s.n cg) := P3.out.1.q1; have q2 : w3.cell? ⟨gg, j, none⟩ = some (.bool (s.M j)) := P3.out.1.at' hj; have q3 := P3.out.1.fro j; clear o3 g3)
    go_ret
    refine ⟨rfl, gc, cc, gg, cg, P3.out.1.flag hj false, .inl rfl, .inl rfl, ?_⟩
    refine ((Turn.of_new (S := fun k => k = g ∨ k = gc ∨ k = gg) B2.out).trans (P3.out.2.mono fun k e => .inr (.inl e)) fun _ e => .inl e).trans (Turn.setCell _ _ _ (.inr (.inr rfl))) fun _ e => .inl e
  · have e1 : argE s c = 2 := by unfold argE; rw [if_neg h]
    have e2 : putT s c x = s := by unfold putT; rw [if_neg h]
    rw [e1, e2]
    go_enter Try.func12, Try.ntmps12
    go_upto_region 1 with fail
    generalize hw1 : World.alloc w _ = w1
    have B1 := hid (show Below w.heap.size w w1 by rw [← hw1]; exact (Below.refl _ _).alloc (Nat.le_refl _) _)
    have H1 := hid (HH.out.on B1.out)
    clear hw1
    go_wp2_with fail
    refine (rhas_any H1.out _).mono ?_
    rintro e w2 ⟨rfl, rfl⟩
    rw [decide_eq_false h]
    clear h e1 e2
    go_wp2_with fail
    go_ret
    exact ⟨rfl, gc, cc, gg, cg, H1.out, .inl rfl, .inl rfl, Turn.of_new B1.out⟩
end
end StM
end Go.Proofs.Ytlbfjnddbdpdpaa
