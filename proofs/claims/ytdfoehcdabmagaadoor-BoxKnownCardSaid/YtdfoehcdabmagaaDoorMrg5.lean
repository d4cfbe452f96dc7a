/-
  Rows of n bytes, by value and in memory, of any such type: loads, stores, new variables, returns, comparisons.
  Contracts of casemateref09.Row and casemateref09.Sub.
  An empty slice of bytes that is made with room.
  Contracts of bytes.isWidth, copied, lay, Num and Text over this translation.
  Contracts of bytes.lay, Num and Text over this translation.
  Contracts of the document's Width, Digits, Value, Num and Text (casemateref06) over this translation.
  What comes in, number by number.
  Slices of bytes that come in.
  Slices of slices of bytes that come in.
  Contracts of the document's Text and Row (casemateref06), and of bytes.Row, over this translation.
  Contract of bytes.Row over this translation.
  Contract of the document's Row (casemateref06) over this translation.
  A region in the text's order, walked as one that draws it (a class of worlds is handed on; guards are read off).
  Rows of n bytes loaded in a drawn region that makes a variable.
  Contracts of casemateref10.Bytes, Row, Seal and Masked.
  Rows of sectors in one block: a slice literal of sectors; what lies in such a block.
  Structs of rows of bytes, built out of their fields.
  A region that draws its order, whose values may hang on the order (addresses of what it makes): of each operation's value one states what it is like (S, of no world) and what the world then holds of it and of those it waits for (D, kept by what the others do: K).
  An append leaves the slice that it was given as it was; the append in a region that draws its order.
  As XRegRel; what the world holds of a value is kept by those operations alone that it does not wait for.
  A region that draws its order, whose values may hang on the order and on what a call makes of the world: of each operation's value one states what it is like (S), what the world then holds of it (D, kept by what the others do: K), and which operations have come up (C).
  Contracts of casemateref10.Masked, Wrap and Unwrap.
  Contracts of casemateref10.Wrap and Unwrap.
-/
import Derived.Test.YtdfoehcdabmagaaDoorMrg4
import Derived.Laws.MakeOwn
import Derived.Laws.OwnMore
import Derived.Deep.Slices
import Derived.OpenShut
import Derived.ChangeMaps5
import Derived.ChangeSlices
import Derived.Great.BuildSlice
set_option linter.unusedVariables false
set_option linter.unusedSimpArgs false
set_option maxRecDepth 100000
namespace Go.Proofs.YtdfoehcdabmagaaDoor
open Go.ChangeShapes Go.WideShapes Go.ChangeAt Go.RowKit
/-- n bytes. -/
def ar (n : Nat) (f : Nat → Nat) : Array Value := row n fun k => .int .u8 (f k : Nat)
section
variable {n k v : Nat} {f g : Nat → Nat}
theorem size_ar : (ar n f).size = n := size_row
theorem get_ar (h : k < n) : (ar n f)[k]? = some (.int .u8 (f k : Nat)) := get_row_lt h
theorem ar_ext (h : ∀ k, k < n → f k = g k) : ar n f = ar n g := row_ext fun k hk => by rw [h k hk]
theorem ar_inj (h : ar n f = ar n g) : ∀ k, k < n → f k = g k := fun k hk => by
  have := row_inj h k hk
  simp only [Value.int.injEq, true_and] at this
  exact Int.ofNat_inj.1 this
theorem ar_set : (ar n f).setIfInBounds k (.int .u8 (v : Nat)) = ar n fun j => if j = k then v else f j := by
  unfold ar
  rw [row_set]
  exact row_ext fun j _ => by by_cases e : j = k <;> simp [e]
theorem ar_one : (ar n f).all (·.oneCell') = true := row_one fun _ _ => rfl
theorem ar_list_get {j : Nat} {v : Value} (h : (ar n f).toList[j]? = some v) : j < n ∧ v = .int .u8 (f j : Nat) := by
  rw [Array.getElem?_toList] at h
  by_cases hj : j < n
  · rw [get_ar hj] at h; exact ⟨hj, (Option.some.inj h).symm⟩
  · rw [ar, get_row, if_neg hj] at h; cases h
theorem ar_getD {j : Nat} (h : j < n) : (ar n f).toList.getD j undef = .int .u8 (f j : Nat) := by
  rw [List.getD_eq_getElem?_getD, Array.getElem?_toList, get_ar h]; rfl
/-- A loop over bytes: behind k rounds the first k are turned. -/
def upTo (k : Nat) (f h : Nat → Nat) : Nat → Nat := fun j => if j < k then h j else f j
theorem upTo_zero {f h : Nat → Nat} : upTo 0 f h = f := by funext j; simp [upTo]
theorem upTo_at {k : Nat} {f h : Nat → Nat} : upTo k f h k = f k := by simp [upTo]
theorem upTo_step {w : World} {b n k : Nat} {t : TypeId} {f h : Nat → Nat} (hb : Blk w b t ((ar n (upTo k f h)).setIfInBounds k (.int .u8 (h k : Nat)))) : Blk w b t (ar n (upTo (k + 1) f h)) := by
  rw [ar_set] at hb
  rw [ar_ext (g := fun j => if j = k then h k else upTo k f h j) fun j _ => ?_]
  · exact hb
  · unfold upTo
    by_cases e : j = k
    · subst e; simp
    · simp only [e, if_false]
      by_cases h2 : j < k
      · rw [if_pos h2, if_pos (by omega)]
      · rw [if_neg h2, if_neg (by omega)]
theorem upTo_all {n : Nat} {f h : Nat → Nat} {k : Nat} (hk : n ≤ k) : ar n (upTo k f h) = ar n h := ar_ext fun j hj => by unfold upTo; rw [if_pos (by omega)]
theorem Blk.arRange {w : World} {b o m : Nat} {t : TypeId} (hb : Blk w b t (ar n f)) (h : o + m ≤ n) : w.rangeAt b o (ar m fun k => f (o + k)).toList := fun j v hv => by
  obtain ⟨h1, rfl⟩ := ar_list_get hv
  rw [hb.cell, get_ar (by omega)]
/-- The bytes from place o on replaced. -/
def putA (o m : Nat) (f h : Nat → Nat) : Nat → Nat := fun j => if o ≤ j ∧ j < o + m then h (j - o) else f j
theorem Blk.arPut {w : World} {b o m : Nat} {t : TypeId} {h : Nat → Nat} (hb : Blk w b t (ar n f)) (hm : o + m ≤ n) : Blk (w.setCells b o (ar m h).toList) b t (ar n (putA o m f h)) ∧ Below b w (w.setCells b o (ar m h).toList) := by
  have hl : (ar m h).toList.length = m := by rw [Array.length_toList, size_ar]
  obtain ⟨h1, h2⟩ := blk_setCells (ar m h).toList o w _ hb (by rw [hl]; omega)
  refine ⟨?_, h2⟩
  have e : (row n fun j => if o ≤ j ∧ j < o + (ar m h).toList.length then (ar m h).toList.getD (j - o) undef else Value.int .u8 (f j : Nat)) = ar n (putA o m f h) := row_ext fun j _ => by
    rw [hl]
    show _ = Value.int .u8 ((if o ≤ j ∧ j < o + m then h (j - o) else f j : Nat) : Int)
    by_cases e : o ≤ j ∧ j < o + m
    · rw [if_pos e, if_pos e, ar_getD (by omega)]
    · rw [if_neg e, if_neg e]
  rw [e] at h1
  exact h1
theorem Blk.there {w : World} {b o m N : Nat} {t : TypeId} {F : Nat → Value} (hb : Blk w b t (row N F)) (hm : o + m ≤ N) : w.there b o m := fun j hj => by
  refine ⟨?_, hb.frozen _⟩
  rw [hb.cell, get_row_lt (by omega)]; rfl
end
/-- Of type T is a row of n bytes. -/
structure ArT (T : TypeId) (n : Nat) : Prop where
  size : (Tryd.prog.info? T).map (·.size) = some n
  desc : ∃ d, Tryd.prog.underlying T = some d ∧ d.isRow = true
  zero : ∀ w, (zeroValue T).run Tryd.prog w = .ok (.agg (ar n fun _ => 0)) w
section
variable {ops : Array Oper} {Q : Exit → Act → World → Prop} {a : Act} {w : World} {rest : List Oper} {dst : Option Tmp} {ty : TypeId} {pos : String} {after : Array Edge} {x y : Operand} {g o n m : Nat} {f f0 : Nat → Nat} {T t : TypeId}
theorem Blk.head (hb : Blk w g t (ar n f)) : w.rangeAt g 0 (ar n f).toList := by
  have h := hb.arRange (o := 0) (m := n) (by omega)
  rw [ar_ext (g := f) fun k _ => by rw [Nat.zero_add]] at h
  exact h
theorem ldAm (hT : ArT T n) (hx : a.eval x = .pointer (some ⟨g, o, none⟩)) (hb : w.rangeAt g o (ar n f).toList) (h : wpList Tryd.prog ops Q rest (a.put dst (.agg (ar n f))) w) :
    wpList Tryd.prog ops Q (⟨dst, .load T x, ty, pos, after, none⟩ :: rest) a w := by
  obtain ⟨d, h1, h2⟩ := hT.desc
  exact step_load_mid hb h1 h2 (hT.size.trans (by rw [Array.length_toList, size_ar])) hx (by rw [Array.toArray_toList]; exact h)
theorem ldA (hT : ArT T n) (hx : a.eval x = .pointer (some ⟨g, 0, none⟩)) (hb : Blk w g t (ar n f)) (h : wpList Tryd.prog ops Q rest (a.put dst (.agg (ar n f))) w) :
    wpList Tryd.prog ops Q (⟨dst, .load T x, ty, pos, after, none⟩ :: rest) a w := ldAm hT hx hb.head h
theorem stA (hT : ArT T n) (hx : a.eval x = .pointer (some ⟨g, 0, none⟩)) (hy : a.eval y = .agg (ar n f)) (hb : Blk w g t (ar n f0)) (h : wpList Tryd.prog ops Q rest (a.put dst undef) (w.setRow g (ar n f))) :
    wpList Tryd.prog ops Q (⟨dst, .store T x y, ty, pos, after, none⟩ :: rest) a w :=
  step_store_row hb (hT.size.trans (by rw [size_ar])) (by rw [size_ar, size_ar]) ar_one hx hy h
theorem run_alloc_ar (hT : ArT T n) (w : World) : (Instr.alloc T true (.tuple #[])).run Tryd.prog w = .ok (.pointer (some ⟨w.heap.size, 0, none⟩)) (w.alloc (.cells (ar n fun _ => 0) T)) := by
  simp [Instr.alloc, Sem.run_bind, hT.zero w, newVar, newRow, Value.cells]
theorem alA (hT : ArT T n) (h : wpList Tryd.prog ops Q rest (a.put dst (.pointer (some ⟨w.heap.size, 0, none⟩))) (w.alloc (.cells (ar n fun _ => 0) T))) :
    wpList Tryd.prog ops Q (⟨dst, .alloc T, ty, pos, after, none⟩ :: rest) a w := by
  refine wpList_plain rfl fun K hK => ?_
  unfold Oper.wp execOp
  simp only [Sem.run_bind, run_alloc_ar hT w, Result.andThen_ok, Sem.run_pure]
  exact hK _ _ h
theorem run_ldm (hT : ArT T n) {w : World} (hb : w.rangeAt g o (ar n f).toList) : (Instr.loadAt T (.pointer (some ⟨g, o, none⟩))).run Tryd.prog w = .ok (.agg (ar n f)) w := by
  obtain ⟨d, h1, h2⟩ := hT.desc
  have := run_loadAt_mid (P := Tryd.prog) w g o T (ar n f).toList _ hb h1 h2 (hT.size.trans (by rw [Array.length_toList, size_ar]))
  rwa [Array.toArray_toList] at this
section
variable {C : World → Prop} {Qk : Act → Prop} {gd : Option (Nat × Bool)}
theorem kldA (hT : ArT T n) (hwt : Region.wanted ⟨dst, .load T x, ty, pos, after, gd⟩ (yielded ops a.tmps) = true) (hx : a.eval x = .pointer (some ⟨g, o, none⟩)) (hb : ∀ w, C w → w.rangeAt g o (ar n f).toList) (h : wpK Tryd.prog ops C Qk rest (a.put dst (.agg (ar n f)))) :
    wpK Tryd.prog ops C Qk (⟨dst, .load T x, ty, pos, after, gd⟩ :: rest) a :=
  wpK_val hwt (fun w hw => gives_value (w' := w) (by simp only [execOp, hx, Sem.run_bind, run_ldm hT (hb w hw), Result.andThen_ok, Sem.run_pure]) hw) h
end
theorem ret_ar {fn : Func} {R : Ending → World → Prop} {p : Tmp} (hT : ArT T n) (hr : fn.results = #[.cell p T]) (hp : a.tmps.getD p undef = .pointer (some ⟨g, 0, none⟩)) (hdf : a.defers = [])
    (hb : Blk w g t (ar n f)) (hR : R (.returned (.agg (ar n f))) w) : bodyPost Tryd.prog fn R .ret a w := by
  obtain ⟨d, h1, h2⟩ := hT.desc
  exact ret_row hr hb h1 h2 (hT.size.trans (by rw [size_ar])) hp hdf hR
end
theorem run_index_ar {T : TypeId} {n k : Nat} {f : Nat → Nat} (hT : Tryd.prog.underlying T = some (.array n 5)) (hk : k < n) (w : World) : (Instr.index T (.agg (ar n f)) (.int .i64 k)).run Tryd.prog w = .ok (.int .u8 (f k : Nat)) w := by
  have h1 : (0 : Int) ≤ (k : Int) ∧ (k : Int) < n := by omega
  have hz : (Tryd.prog.info? 5).map (·.size) = some 1 := by kernel_rfl
  simp [Instr.index, run_underlying hT, asIntOf, h1, go_sem]
  rw [if_pos hk, get_ar hk]; rfl
def eqA (n : Nat) (f g : Nat → Nat) : Bool := eqN n (fun k => f k) fun k => g k
theorem eqA_iff {n : Nat} {f g : Nat → Nat} : eqA n f g = true ↔ ∀ k, k < n → f k = g k := by
  unfold eqA eqN
  rw [List.all_eq_true]
  constructor
  · intro h k hk
    have := h k (List.mem_range.2 hk)
    exact Int.ofNat_inj.1 (beq_iff_eq.1 this)
  · intro h k hk
    have := h k (List.mem_range.1 hk)
    exact beq_iff_eq.2 (congrArg _ this)
theorem eqA_yes {n : Nat} {f g : Nat → Nat} (h : ∀ k, k < n → f k = g k) : eqA n f g = true := eqA_iff.2 h
theorem eqA_no {n : Nat} {f g : Nat → Nat} (h : ¬ ∀ k, k < n → f k = g k) : eqA n f g = false := by
  cases e : eqA n f g with
  | false => rfl
  | true => exact absurd (eqA_iff.1 e) h
theorem run_eql_ar {T : TypeId} {n : Nat} (hT : Tryd.prog.underlying T = some (.array n 5)) (w : World) (f g : Nat → Nat) : (binOp .eql T (.agg (ar n f)) (.agg (ar n g))).run Tryd.prog w = .ok (.bool (eqA n f g)) w := by
  rw [run_eql_struct]
  have := run_equalIn_row (P := Tryd.prog) (d := 9998) (t := T) (e := 5) (k := .u8) (n := n) (f := fun k => f k) (g := fun k => g k) hT Tryd.underlying5 (by kernel_rfl) w
  unfold ar
  rw [this]
  rfl
theorem run_neq_ar {T : TypeId} {n : Nat} (hT : Tryd.prog.underlying T = some (.array n 5)) (w : World) (f g : Nat → Nat) : (binOp .neq T (.agg (ar n f)) (.agg (ar n g))).run Tryd.prog w = .ok (.bool (!eqA n f g)) w := by
  rw [run_neq_struct]
  have := run_equalIn_row (P := Tryd.prog) (d := 9998) (t := T) (e := 5) (k := .u8) (n := n) (f := fun k => f k) (g := fun k => g k) hT Tryd.underlying5 (by kernel_rfl) w
  unfold ar
  rw [this]
  rfl
theorem extract_ar {N m o : Nat} {f : Nat → Nat} (h : o + m ≤ N) : (ar N f).extract o (o + m) = ar m fun i => f (o + i) := by
  apply Array.ext_getElem?
  intro k
  rw [Array.getElem?_extract]
  by_cases hk : k < m
  · rw [if_pos (by rw [size_ar]; omega), get_ar (by omega), get_ar hk]
  · rw [if_neg (by rw [size_ar]; omega), ar, get_row, if_neg hk]
theorem size_of {T : TypeId} {m : Nat} (hT : ArT T m) (w : World) : (sizeOf T).run Tryd.prog w = .ok m w := by
  have h := hT.size
  cases hi : Tryd.prog.info? T with
  | none => rw [hi] at h; cases h
  | some i => rw [hi] at h; simp at h; simp [sizeOf, typeInfo, hi, h]
section
variable {a : Act} {w : World} {g h n m : Nat} {f f' : Nat → Nat} {T U : TypeId}
theorem run_ar_var {t : TypeId} (hT : ArT T n) (hb : Blk w g t (ar n f)) : (loadVar T ⟨g, 0, none⟩).run Tryd.prog w = .ok (.agg (ar n f)) w := by
  obtain ⟨d, h1, h2⟩ := hT.desc
  have := run_loadVar_mid (P := Tryd.prog) w g 0 T (ar n f).toList _ hb.head h1 h2 (hT.size.trans (by rw [Array.length_toList, size_ar]))
  rwa [Array.toArray_toList] at this
theorem ret_ar2 {t u : TypeId} {fn : Func} {R : Ending → World → Prop} {p q : Tmp} (hT : ArT T n) (hU : ArT U m) (hr : fn.results = #[.cell p T, .cell q U]) (hp : a.tmps.getD p undef = .pointer (some ⟨g, 0, none⟩)) (hq : a.tmps.getD q undef = .pointer (some ⟨h, 0, none⟩))
    (hdf : a.defers = []) (hb : Blk w g t (ar n f)) (hb' : Blk w h u (ar m f')) (hR : R (.returned (.tuple #[.agg (ar n f), .agg (ar m f')])) w) : bodyPost Tryd.prog fn R .ret a w := by
  refine bodyPost_ret ?_ hdf hR
  have hp' : a.tmps[p]?.getD undef = .pointer (some ⟨g, 0, none⟩) := by simpa using hp
  have hq' : a.tmps[q]?.getD undef = .pointer (some ⟨h, 0, none⟩) := by simpa using hq
  simp [results, hr, hp', hq', asAddr, run_ar_var hT hb, run_ar_var hU hb']
end
end Go.Proofs.YtdfoehcdabmagaaDoor
set_option maxRecDepth 100000
namespace Go.Proofs.YtdfoehcdabmagaaDoor
open Go.ChangeShapes Go.WideShapes Go.ChangeAt Go.RowKit
attribute [local go_sem] Gives
/-- A literal of bytes is the call's own. -/
theorem Own.litN {w : World} {B : Nat} {cs : Array Value} {l : List Nat} {n : Nat} (hB : B ≤ w.heap.size) (hn : n = l.length) (hl : l.length ≤ maxLen) (h : cs.toList = nums .u8 l) : Own 5 .u8 (w.alloc (.cells cs 5)) B (.slice (some ⟨w.heap.size, 0, none⟩) n n) l := by
  subst hn
  have hs : cs.size = l.length := by rw [← Array.length_toList, h, nums_length]
  exact ⟨by rw [nums_length, Nat.mul_one], .inr ⟨w.heap.size, l.length, cs, rfl, hB, heap_alloc_new w _, Nat.le_refl _, hl, by rw [hs, Nat.mul_one], by rw [Nat.mul_one, h, ← nums_length .u8 l, List.take_length]⟩⟩
namespace DvP
/-- The row of the domain D with one part. -/
def rowD (s : ByteArray) : List Nat := BytM.rowB 68 [nats s]
def headD (n : Nat) : List Nat := [68, 1, 0, 0, n / 256, n % 256]
theorem rowD_eq {s : ByteArray} (h : s.size ≤ 10000) : rowD s = headD s.size ++ nats s := by
  unfold rowD BytM.rowB BytM.flatP BytM.flatP headD
  rw [nats_length]
  unfold BytM.dig BytM.dig BytM.dig BytM.dig BytM.dig
  rw [show s.size / 256 ^ 3 % 256 = 0 by omega, show s.size / 256 ^ 2 % 256 = 0 by omega, show s.size / 256 ^ 1 % 256 = s.size / 256 by omega, show s.size / 256 ^ 0 % 256 = s.size % 256 by omega]
  simp
theorem rowD_length {s : ByteArray} (h : s.size ≤ 10000) : (rowD s).length = 6 + s.size := by rw [rowD_eq h, List.length_append, nats_length]; simp [headD]
theorem rowD_256 {s : ByteArray} (h : s.size ≤ 10000) : B256 (rowD s) := by
  rw [rowD_eq h]
  refine B256.append ?_ (nats_256 s)
  intro x hx
  simp only [headD, List.mem_cons, List.not_mem_nil, or_false] at hx
  rcases hx with rfl | rfl | rfl | rfl | rfl | rfl <;> omega
theorem nats_take (s : ByteArray) {i : Nat} (h : i < s.size) : (nats s).take (i + 1) = (nats s).take i ++ [(nats s).getD i 0] := by
  have hl : i < (nats s).length := by rw [nats_length]; exact h
  rw [List.take_succ_eq_append_getElem hl, ← nums_at hl]
theorem head_lit {n : Nat} (h : n ≤ 10000) : (#[.int .u8 68, .int .u8 1, .int .u8 ((n : Int) / 16777216), .int .u8 ((n : Int) / 65536), .int .u8 ((n : Int) / 256), .int .u8 ((n : Int) % 256)] : Array Value).toList = nums .u8 (headD n) := by
  have e1 : (n : Int) / 16777216 = ((0 : Nat) : Int) := by omega
  have e2 : (n : Int) / 65536 = ((0 : Nat) : Int) := by omega
  have e3 : (n : Int) / 256 = ((n / 256 : Nat) : Int) := by omega
  have e4 : (n : Int) % 256 = ((n % 256 : Nat) : Int) := by omega
  rw [e1, e2, e3, e4]; rfl
set_option maxHeartbeats 400000 in
set_option maxRecDepth 100000 in
theorem rrow_any (s : ByteArray) (hs : s.size ≤ 10000) (w : World) :
    Calls Tryd.prog 46 #[.string s] w fun e w' => ∃ v, e = .returned v ∧ Own 5 .u8 w' w.heap.size v (rowD s) ∧ Below w.heap.size w w' := by
  have HS := hid hs
  go_enter Tryd.func46, Tryd.ntmps46
  go_upto_region 3 with fail
  have o1 := Own.litN (w := w) (B := w.heap.size) (n := 6) (l := headD s.size) (Nat.le_refl _) rfl (by show 6 ≤ maxLen; unfold maxLen; omega) (head_lit hs)
  generalize hw1 : World.alloc w _ = w1 at o1 ⊢
  have hb1 : Below w.heap.size w w1 := by rw [← hw1]; exact (Below.refl _ _).alloc (Nat.le_refl _) _
  have hs1 : w.heap.size ≤ w1.heap.size := hb1.size
  clear hw1
  have O1 := hid o1
  have HB := hid hb1
  clear o1 hb1
  generalize hv1 : Value.slice (some ⟨w.heap.size, 0, none⟩) 6 6 = v1 at O1 ⊢
  clear hv1
  go_wp2_with fail
  go_loopw [4, 5] (fun u v wr => ∃ (i : Nat) (vo : Value), i ≤ s.size ∧ v = .int .i64 i ∧ u = vo ∧ Hid (Own 5 .u8 wr w.heap.size vo (headD s.size ++ (nats s).take i)) ∧ Hid (Below w.heap.size w wr)) (fun _ v _ => s.size - (intOf v).toNat)
  case atStart => exact ⟨0, _, by omega, rfl, rfl, hid (by rw [List.take_zero, List.append_nil]; exact O1.out), HB⟩
  case round =>
    clear O1 HB
    obtain ⟨i, vo, hi, rfl, rfl, ho, hb⟩ := hrel
    have hzw := hb.out.size
    by_cases hlt : i < s.size
    · have ti : (i : Int) < (s.size : Int) := by omega
      have hI := run_idxs s hlt
      have hst := nats_take s hlt
      have hlen : (headD s.size ++ (nats s).take i).length = 6 + i := by rw [List.length_append, List.length_take, nats_length, show (headD s.size).length = 6 from rfl]; omega
      generalize (nats s).getD i 0 = x at *
      have HST := hid hst
      have HLEN := hid hlen
      clear hst hlen
      go_wp2_with (at_builtin; (with_reducible apply wappN eltB); rfl; rfl; exact ho.out.alloc _; exact nums_one (x := x) (B := wr.heap.size + 1) rfl (Nat.lt_succ_self _); rfl; (rw [HLEN.out]; omega); (simp; omega); intro v' w4 o4 g4)
      have b4 := below_grown (hb.out.alloc hzw (.cells #[.int .u8 (x : Nat)] 5)) g4 ho.out (Nat.le_refl _) (Nat.le_refl _)
      go_roundw
      case rel => exact ⟨i + 1, v', by omega, by go_num, rfl, hid (by rw [HST.out, ← List.append_assoc]; exact o4), hid b4⟩
      case measure => simp [intOf] <;> omega
    · have ti : decide ((i : Int) < (s.size : Int)) = false := by simp; omega
      obtain rfl : i = s.size := by omega
      have o9 := ho.out
      rw [List.take_of_length_le (by rw [nats_length]; omega), ← rowD_eq hs] at o9
      have O9 := hid o9
      clear o9 ho
      go_wp2_with fail
      go_ret
      exact ⟨_, rfl, O9.out, hb.out⟩
theorem tK : ArT 23 32 := ⟨by kernel_rfl, ⟨_, Tryd.underlying23, rfl⟩, (zero_of_info (P := Tryd.prog) (t := 23) (v := .agg (ar 32 fun _ => 0)) (n := 32) (by kernel_rfl)).1⟩
theorem tT : ArT 27 32 := ⟨by kernel_rfl, ⟨_, Tryd.underlying27, rfl⟩, (zero_of_info (P := Tryd.prog) (t := 27) (v := .agg (ar 32 fun _ => 0)) (n := 32) (by kernel_rfl)).1⟩
/-- The key of a label. -/
def sub (k : Nat → Nat) (s : ByteArray) : Nat → Nat := HmM.tag (HmM.dl k) (rowD s)
set_option maxHeartbeats 800000 in
set_option maxRecDepth 100000 in
theorem rsub_any (k : Nat → Nat) (hk : ∀ i, k i < 256) (s : ByteArray) (hs : s.size ≤ 10000) (w : World) :
    Calls Tryd.prog 37 #[.agg (ar 32 k), .string s] w fun e w' => e = .returned (.agg (ar 32 (sub k s))) ∧ Below w.heap.size w w' := by
  have HF := hid hk
  have HS := hid hs
  clear hk hs
  go_enter Tryd.func37, Tryd.ntmps37
  go_upto_region 1 with (with_reducible apply alA tK)
  generalize hw1 : World.alloc (World.alloc w _) _ = w1
  have B1 := hid (show Blk w1 w.heap.size 23 (ar 32 k) by rw [← hw1]; exact (Blk.new _ _ _).alloc _)
  have B2 := hid (show Blk w1 (w.heap.size + 1) 23 (ar 32 fun _ => 0) by rw [← hw1]; exact Blk.top rfl (by simp))
  have BEL := hid (show Below w.heap.size w w1 by rw [← hw1]; exact ((Below.refl _ _).alloc (Nat.le_refl _) _).alloc (by simp) _)
  clear hw1
  have hgl := B1.out.lt
  have hgl2 := B2.out.lt
  go_wp2_with fail
  go_loopw [5, 6] (fun u v wr => ∃ (i : Nat) (vo : Value), i ≤ 32 ∧ v = .int .i64 i ∧ u = vo ∧ Hid (Own 5 .u8 wr w1.heap.size vo ((HmM.dl k).take i)) ∧ Hid (Below w1.heap.size w1 wr)) (fun _ v _ => 32 - (intOf v).toNat)
  case atStart => exact ⟨0, _, by omega, rfl, rfl, hid Own.nil, hid (Below.refl _ _)⟩
  case round =>
    obtain ⟨i, vo, hi, rfl, rfl, ho, hb⟩ := hrel
    have hzw := hb.out.size
    by_cases hlt : i < 32
    · have ti : (i : Int) < 32 := by omega
      have q1 := ((B1.out.below hb.out hgl).cell i).trans (get_ar hlt)
      have hst := dl_take k hlt
      have hlen : ((HmM.dl k).take i).length = i := by rw [List.length_take, HmM.dl_length]; omega
      have hx := HF.out i
      generalize k i = x at *
      have HST := hid hst
      have HLEN := hid hlen
      clear hst hlen
      go_wp2_with (at_builtin; (with_reducible apply wappN eltB); rfl; rfl; exact ho.out.alloc _; exact nums_one (x := x) (B := wr.heap.size + 1) rfl (Nat.lt_succ_self _); rfl; (rw [HLEN.out]; omega); (simp; omega); intro v' w4 o4 g4)
      have b4 := below_grown (hb.out.alloc hzw (.cells #[.int .u8 (x : Nat)] 5)) g4 ho.out (Nat.le_refl _) (Nat.le_refl _)
      go_roundw
      case rel => exact ⟨i + 1, v', by omega, by go_num, rfl, hid (by rw [HST.out]; exact o4), hid b4⟩
      case measure => simp [intOf] <;> omega
    · obtain rfl : i = 32 := by omega
      have o9 := ho.out
      rw [dl_full] at o9
      have c2 := hid (B2.out.below hb.out hgl2)
      have cb := hid (BEL.out.trans (hb.out.mono BEL.out.size))
      obtain ⟨K, kcap, rfl, ak⟩ := o9.arg (HmM.dl_256 HF.out)
      have AK := hid ak
      clear o9 ho hb B1 B2 BEL ak hzw
      go_wp2_with fail
      refine (rrow_any s HS.out wr).mono ?_
      rintro e w3 ⟨v, rfl, o3, h3⟩
      obtain ⟨A, cap, rfl, ar3⟩ := o3.arg (rowD_256 HS.out)
      have a3 := AK.out.on h3
      have d2 := hid (c2.out.below h3 c2.out.lt)
      have db := hid (cb.out.trans (h3.mono cb.out.size))
      clear c2 cb o3 h3 AK
      have A3 := hid a3
      have AR := hid ar3
      clear a3 ar3
      go_wp2_with fail
      refine (rof_any K (HmM.dl k) _ kcap rfl (by rw [HmM.dl_length]; omega) A3.out.none A3.out.b256 A (rowD s) _ cap rfl (by rw [rowD_length HS.out]; have := HS.out; omega) AR.out.none AR.out.b256 w3 A3.out.byt AR.out.byt).mono ?_
      rintro e w4 ⟨rfl, h4⟩
      have SB := hid (show ∀ i, sub k s i < 256 from fun i => HmM.tag_256 _ _ i)
      rw [show tag (HmM.tag (HmM.dl k) (rowD s)) = ar 32 (sub k s) from rfl]
      obtain ⟨F, hF⟩ : ∃ F, F = sub k s := ⟨_, rfl⟩
      have HFE := hid hF
      rw [← hF] at SB ⊢
      have c2 := hid (d2.out.below h4 d2.out.lt)
      have cb := hid (db.out.trans (h4.mono db.out.size))
      have hl4 := c2.out.lt
      clear d2 db h4 A3 AR hF
      obtain ⟨gt, hgt⟩ : ∃ gt, gt = w4.heap.size := ⟨_, rfl⟩
      have hz : Blk (w4.alloc (.cells (ar 32 fun _ => 0) 27)) w4.heap.size 27 (ar 32 fun _ => 0) := Blk.new _ _ _
      go_upto_region 7 with (first | (with_reducible apply alA tT) | ((with_reducible apply stA tT); rfl; rfl; exact hz))
      rw [← hgt] at hz hl4 ⊢
      generalize hw5 : World.setRow _ _ _ = w5
      have e2 := hid (show Blk w5 (w.heap.size + 1) 23 (ar 32 fun _ => 0) by rw [← hw5]; exact (c2.out.alloc _).setRow_other (by omega) _)
      have e3 := hid (show Blk w5 gt 27 (ar 32 F) by rw [← hw5]; exact hz.setRow_same _)
      have eb := hid (show Below w.heap.size w w5 by rw [← hw5]; exact below_setRow (cb.out.alloc cb.out.size _) (by omega) _)
      clear hw5 hz c2 cb hgt
      obtain ⟨go, hgo⟩ : ∃ go, go = w5.heap.size := ⟨_, rfl⟩
      have hto : gt < go := by rw [hgo]; exact e3.out.lt
      have hz : Blk (w5.alloc (.cells (ar 32 fun _ => 0) 23)) w5.heap.size 23 (ar 32 fun _ => 0) := Blk.new _ _ _
      go_upto_region 8 with (with_reducible apply alA tK)
      rw [← hgo] at hz ⊢
      generalize hw6 : World.alloc _ _ = w6 at hz ⊢
      have d2 := show Blk w6 (w.heap.size + 1) 23 (ar 32 fun _ => 0) by rw [← hw6]; exact e2.out.alloc _
      have d3 := show Blk w6 gt 27 (ar 32 F) by rw [← hw6]; exact e3.out.alloc _
      have db := show Below w.heap.size w w6 by rw [← hw6]; exact eb.out.alloc eb.out.size _
      clear hw6 e2 e3 eb hgo
      go_wp2_with fail
      go_loopw [9] (fun v wr => ∃ i : Nat, i ≤ 32 ∧ v = .int .i64 i ∧ Blk wr (w.heap.size + 1) 23 (ar 32 fun _ => 0) ∧ Blk wr gt 27 (ar 32 F) ∧ Blk wr go 23 (ar 32 (upTo i (fun _ => 0) F)) ∧ Below w.heap.size w wr) (fun v _ => 32 - (intOf v).toNat)
      case atStart => exact ⟨0, by omega, rfl, d2, d3, by rw [upTo_zero]; exact hz, db⟩
      case round =>
        clear d2 d3 hz db
        obtain ⟨i, hi, rfl, b2, b3, b4, hb⟩ := hrel
        by_cases hlt : i < 32
        · have ti : (i : Int) < 32 := by omega
          have c1 : wr.cell? ⟨gt, i, none⟩ = some (.int .u8 (F i : Nat)) := by rw [b3.cell, get_ar hlt]
          have c3 := b4.frozen i
          have c4 := (b4.cell i).trans (get_ar hlt)
          go_wp2_with fail
          go_roundw
          case rel => exact ⟨i + 1, by omega, by go_num, b2.setCell_other (by show go ≠ _; omega) _, b3.setCell_other (by show go ≠ _; omega) _, upTo_step (b4.setCell_same i _), hb.setCell (by show w.heap.size ≤ go; omega) _⟩
          case measure => simp [intOf]; omega
        · have ti : decide ((i : Int) < 32) = false := by simp; omega
          rw [upTo_all (by omega)] at b4
          go_wp2_with (first | ((with_reducible apply ldA tK); rfl; exact b4) | ((with_reducible apply stA tK); rfl; rfl; exact b2))
          apply ret_ar tK Tryd.results37
          · rfl
          · rfl
          · exact b2.setRow_same _
          exact ⟨by rw [HFE.out], below_setRow hb (by omega) _⟩
end DvP
end Go.Proofs.YtdfoehcdabmagaaDoor
set_option maxRecDepth 100000
namespace Go.Proofs.YtdfoehcdabmagaaDoor
open Go.ChangeShapes Go.WideShapes Go.ChangeAt Go.RowKit
/-- An empty slice with room. -/
theorem mk0 {ops : Array Oper} {Q : Exit → Act → World → Prop} {a : Act} {w : World} {rest : List Oper} {dst : Option Tmp} {ty : TypeId} {pos : String} {after : Array Edge} {x y : Operand} {n : Nat} (hn : n ≤ 1000000)
    (hx : a.eval x = .int .i64 0) (hy : a.eval y = .int .i64 (n : Int)) (h : ∀ v w', Own 5 .u8 w' w.heap.size v [] → Below w.heap.size w w' → wpList Tryd.prog ops Q rest (a.put dst v) w') :
    wpList Tryd.prog ops Q (⟨dst, .makeSlice 39 x y, ty, pos, after, none⟩ :: rest) a w := by
  obtain ⟨i, hi, hz, h1, h2⟩ := eltB.inf
  obtain ⟨w', hr, ho, hg⟩ := run_make_own (P := Tryd.prog) w w.heap.size 39 5 i (.int .u8 0) 1 eltB.und hi hz h1 .i64 .i64 n (Nat.le_trans (Nat.mul_le_mul h2 hn) (by omega)) (by unfold maxLen; omega) (Nat.le_refl _)
  refine wpList_plain rfl fun K hK => ?_
  unfold Oper.wp execOp
  simp only [Sem.run_bind, hx, hy, hr, Result.andThen_ok]
  exact hK _ _ (h _ w' ho (below_none (Below.refl _ _) hg (Nat.le_refl _)))
theorem nums_zero (n : Nat) : nums .u8 (List.replicate n 0) = List.replicate n (.int .u8 0) := by
  unfold nums; rw [List.map_replicate]; rfl
/-- n bytes 0. -/
theorem mkz {ops : Array Oper} {Q : Exit → Act → World → Prop} {a : Act} {w : World} {rest : List Oper} {dst : Option Tmp} {ty : TypeId} {pos : String} {after : Array Edge} {x y : Operand} {n : Nat} (hn : n ≤ 1000000)
    (hx : a.eval x = .int .i64 n) (hy : a.eval y = .int .i64 (n : Int)) (h : ∀ v w', Own 5 .u8 w' w.heap.size v (List.replicate n 0) → Below w.heap.size w w' → wpList Tryd.prog ops Q rest (a.put dst v) w') :
    wpList Tryd.prog ops Q (⟨dst, .makeSlice 39 x y, ty, pos, after, none⟩ :: rest) a w := by
  obtain ⟨i, hi, hz, h1, h2⟩ := eltB.inf
  obtain ⟨w', hr, ho, hg⟩ := run_makeSlice_full (P := Tryd.prog) w w.heap.size 39 5 i (.int .u8 0) 1 eltB.und hi hz h1 .i64 .i64 n (by omega) (Nat.le_trans (Nat.mul_le_mul h2 hn) (by omega)) (by unfold maxLen; omega) (Nat.le_refl _)
  refine wpList_plain rfl fun K hK => ?_
  unfold Oper.wp execOp
  simp only [Sem.run_bind, hx, hy, hr, Result.andThen_ok]
  refine hK _ _ (h _ w' ?_ (below_none (Below.refl _ _) hg (Nat.le_refl _)))
  have e : (madeCells (Value.int IntKind.u8 0).cells (n * 1)).toList = List.replicate n (.int .u8 0) := by
    unfold madeCells
    apply List.ext_getElem?
    intro j
    simp [Value.cells, Nat.mod_one, List.getElem?_replicate]
    by_cases h : j < n
    · rw [List.getElem?_range h, if_pos h]; rfl
    · rw [List.getElem?_eq_none (by simp; omega), if_neg h]; rfl
  unfold Own
  rw [List.length_replicate, nums_zero, ← e]
  exact ho
end Go.Proofs.YtdfoehcdabmagaaDoor
set_option maxRecDepth 100000
namespace Go.Proofs.YtdfoehcdabmagaaDoor
open Go.ChangeShapes Go.WideShapes Go.ChangeAt Go.RowKit
attribute [local go_sem] Gives
theorem beq_false {a b : Int} (h : a ≠ b) : (a == b) = false := by rw [beq_eq_false_iff_ne]; exact h
end Go.Proofs.YtdfoehcdabmagaaDoor
set_option maxRecDepth 100000
namespace Go.Proofs.YtdfoehcdabmagaaDoor
open Go.ChangeShapes Go.WideShapes Go.ChangeAt Go.RowKit
attribute [local go_sem] Gives
theorem shr_cast (n j : Nat) : ((n : Int) / 2 ^ (8 * j) % 256) = ((n / 256 ^ j % 256 : Nat) : Int) := by
  have h : (256 : Nat) ^ j = 2 ^ (8 * j) := by rw [Nat.pow_mul]
  rw [h]
  simp
set_option maxHeartbeats 400000 in
theorem lay_any (v : Value) (l : List Nat) (B m n : Nat) (hm : m ≤ 8) (hsz : l.length ≤ 900000) (W : World) (ho : Own 5 .u8 W B v l) (hB : B ≤ W.heap.size) :
    Calls Tryd.prog 43 #[v, .int .i64 m, .int .u64 n] W fun e w' => ∃ v', e = .returned v' ∧ Own 5 .u8 w' B v' (l ++ BytM.dig m n) ∧ Below B W w' := by
  have HO := hid ho
  have HB := hid hB
  have HZ := hid hsz
  clear ho hB hsz
  go_enter Tryd.func43, Tryd.ntmps43
  go_wp2_with fail
  go_loopw [0, 9] (fun u i wr => ∃ (k : Nat) (vo : Value), k ≤ m ∧ i = .int .i64 k ∧ u = vo ∧ Hid (Own 5 .u8 wr B vo (l ++ (BytM.dig m n).take k)) ∧ Hid (Below B W wr)) (fun _ i _ => m - (intOf i).toNat)
  case atStart => exact ⟨0, _, by omega, rfl, rfl, hid (by rw [List.take_zero, List.append_nil]; exact HO.out), hid (Below.refl _ _)⟩
  case round =>
    obtain ⟨k, vo, hk, rfl, rfl, ho, hb⟩ := hrel
    by_cases hlt : k < m
    · have ti : (k : Int) < (m : Int) := by omega
      have hst := BytM.dig_step (n := n) hlt
      have hlen : ((BytM.dig m n).take k).length = k := by rw [List.length_take, BytM.dig_length]; omega
      have hx := shr_cast n (m - 1 - k)
      generalize n / 256 ^ (m - 1 - k) % 256 = x at *
      have HX := hid hx
      have HST := hid hst
      have HLEN := hid hlen
      have hzw := hb.out.size
      clear hx hst hlen
      go_wp2_with (at_builtin; (with_reducible apply wappN eltB); rfl; rfl; exact ho.out.alloc _; exact nums_one (x := x) (B := wr.heap.size + 1) (congrArg (Value.int .u8) HX.out) (Nat.lt_succ_self _); rfl; (rw [List.length_append, HLEN.out]; have := HZ.out; omega); (simp; have := HB.out; omega); intro v' w4 o4 g4)
      have b4 := below_grown (hb.out.alloc (Nat.le_trans HB.out hzw) (.cells #[.int .u8 (x : Nat)] 5)) (by rw [← HX.out]; exact g4) ho.out (Nat.le_refl _) HB.out
      go_roundw
      case rel => exact ⟨k + 1, v', by omega, by go_num, rfl, hid (by rw [HST.out, ← List.append_assoc]; exact o4), hid b4⟩
      case measure => simp [intOf]; omega
    · obtain rfl : k = m := by omega
      have ho2 := ho.out
      rw [List.take_of_length_le (by rw [BytM.dig_length]; exact Nat.le_refl _)] at ho2
      have O2 := hid ho2
      clear ho2 ho
      go_wp2_with fail
      go_ret
      exact ⟨_, rfl, O2.out, hb.out⟩
theorem sh_zero {n k : Nat} (h : n < 256 ^ k) : (n : Int) / 2 ^ (8 * k) = 0 := by
  have e : (256 : Nat) ^ k = 2 ^ (8 * k) := by rw [Nat.pow_mul]
  rw [e] at h
  have : ((n / 2 ^ (8 * k) : Nat) : Int) = 0 := by rw [Nat.div_eq_of_lt h]; rfl
  simpa using this
theorem sh_pos {n k : Nat} (h : ¬ n < 256 ^ k) : ((n : Int) / 2 ^ (8 * k) == 0) = false := by
  have e : (256 : Nat) ^ k = 2 ^ (8 * k) := by rw [Nat.pow_mul]
  rw [e] at h
  have h2 : 0 < n / 2 ^ (8 * k) := Nat.div_pos (by omega) (Nat.pow_pos (by omega))
  apply beq_false
  have : ((n / 2 ^ (8 * k) : Nat) : Int) ≠ 0 := by omega
  simpa using this
end Go.Proofs.YtdfoehcdabmagaaDoor
set_option maxRecDepth 100000
namespace Go.Proofs.YtdfoehcdabmagaaDoor
open Go.ChangeShapes Go.WideShapes Go.ChangeAt Go.RowKit
attribute [local go_sem] Gives
theorem set_zeros (j x : Nat) (t : List Nat) : (List.replicate (j + 1) 0 ++ t).set j x = List.replicate j 0 ++ x :: t := by
  rw [List.replicate_succ', List.append_assoc, List.set_append_right _ _ (by simp)]
  simp
set_option maxHeartbeats 400000 in
theorem rdig_any (m n : Nat) (h1 : 1 ≤ m) (hm : m ≤ 8) (hn : n < 18446744073709551616) (w : World) :
    Calls Tryd.prog 50 #[.int .i64 m, .int .u64 n] w fun e w' => ∃ v, e = .returned v ∧ Own 5 .u8 w' w.heap.size v (BytM.dig m n) ∧ Below w.heap.size w w' := by
  go_enter Tryd.func50, Tryd.ntmps50
  go_wp2_with ((with_reducible apply mkz (n := m)); omega; rfl; rfl; intro v2 w2 o2 b2)
  obtain ⟨g, cap, e2, hg, hgl, hc1, hc2, _⟩ := o2.at (by simp; omega)
  rw [List.length_replicate] at e2 hc1
  subst e2
  have O2 := hid o2
  have B2 := hid b2
  clear o2 b2
  go_loopw [1, 6] (fun u i wr => ∃ (k N : Nat), k ≤ m ∧ i = .int .i64 ((k : Int) - 1) ∧ u = .int .u64 N ∧ N < 18446744073709551616 ∧ Hid (N = n / 256 ^ (m - k)) ∧ Hid (Own 5 .u8 wr w.heap.size (.slice (some ⟨g, 0, none⟩) m cap) (List.replicate k 0 ++ (BytM.dig m n).drop k)) ∧ Hid (Below w.heap.size w wr)) (fun _ i _ => (intOf i + 1).toNat)
  case atStart => exact ⟨m, n, by omega, rfl, rfl, hn, hid (by simp), hid (by rw [List.drop_of_length_le (by rw [BytM.dig_length]; exact Nat.le_refl _), List.append_nil]; exact O2.out), B2⟩
  case round =>
    clear O2 B2
    obtain ⟨k, N, hk, rfl, rfl, hN, hNe, ho, hb⟩ := hrel
    by_cases hlt : 1 ≤ k
    · obtain ⟨j, rfl⟩ : ∃ j, k = j + 1 := ⟨k - 1, by omega⟩
      have e1 : ((j + 1 : Nat) : Int) - 1 = (j : Int) := by omega
      rw [e1]
      have hll : (List.replicate (j + 1) 0 ++ (BytM.dig m n).drop (j + 1)).length = m := by rw [List.length_append, List.length_replicate, List.length_drop, BytM.dig_length]; omega
      obtain ⟨g', cap', e3, _, _, _, _, hcell⟩ := ho.out.at (by rw [hll]; omega)
      rw [hll] at e3 hcell
      simp only [Value.slice.injEq, Option.some.injEq, Addr.mk.injEq, and_true, true_and] at e3
      obtain ⟨rfl, rfl⟩ := e3
      obtain ⟨q1, q2⟩ := hcell j (by omega)
      have tj : (j : Int) < (m : Int) := by omega
      have ho2 := ho.out.put (i := j) (x := N % 256) (by rw [hll]; omega)
      have hd := BytM.dig_drop (n := n) (show j < m by omega)
      have hNe2 := hNe.out
      rw [show m - 1 - j = m - (j + 1) by omega, ← hNe2] at hd
      rw [set_zeros, ← hd] at ho2
      have hdv : N / 256 = n / 256 ^ (m - j) := by
        rw [hNe2, Nat.div_div_eq_div_mul, ← Nat.pow_succ, show (m - (j + 1)).succ = m - j by omega]
      have O3 := hid ho2
      have D3 := hid hdv
      have hbl : Below w.heap.size w (wr.setCell ⟨g, j, none⟩ (.int .u8 ((N % 256 : Nat) : Int))) := hb.out.setCell (p := ⟨g, j, none⟩) hg _
      have B3 := hid hbl
      clear hll hcell ho2 hd hNe2 hdv hbl ho hb hNe e1
      go_wp2_with fail
      go_roundw
      case rel => exact ⟨j, N / 256, by omega, by go_num, by simp, by omega, D3, O3, B3⟩
      case measure => simp [intOf] <;> omega
    · obtain rfl : k = 0 := by omega
      have ho2 := ho.out
      rw [List.replicate_zero, List.nil_append, List.drop_zero] at ho2
      have O2 := hid ho2
      clear ho2 ho
      go_wp2_with fail
      go_ret
      exact ⟨_, rfl, O2.out, hb.out⟩
theorem val_step {l : List Nat} {k : Nat} (h : k < l.length) : BytM.val (l.take (k + 1)) = 256 * BytM.val (l.take k) + l.getD k 0 := by
  rw [List.take_succ_eq_append_getElem h, ← nums_at h, BytM.val_snoc]
theorem B256.getD {l : List Nat} (h : B256 l) (k : Nat) : l.getD k 0 < 256 := by
  rw [List.getD_eq_getElem?_getD]
  cases e : l[k]? with
  | none => simp
  | some x => simp only [Option.getD_some]; exact h x (List.mem_of_getElem? e)
theorem val_7 {l : List Nat} (h : B256 l) {k : Nat} (hk : k ≤ 7) : BytM.val (l.take k) < 72057594037927936 :=
  Nat.lt_of_lt_of_le (BytM.val_lt_of (h.take k) (w := 7) (by rw [List.length_take]; omega)) (by omega)
theorem val_8 {l : List Nat} (h : B256 l) (hl : l.length ≤ 8) : BytM.val l < 18446744073709551616 :=
  Nat.lt_of_lt_of_le (BytM.val_lt_of h hl) (by omega)
end Go.Proofs.YtdfoehcdabmagaaDoor
set_option maxRecDepth 100000
namespace Go.Proofs.YtdfoehcdabmagaaDoor
open Go.ChangeShapes Go.WideShapes Go.ChangeAt Go.RowKit Go.Deep
theorem choose_lt {α : Type} [Inhabited α] {n : Nat} {P : Nat → α → Prop} (h : ∀ k, k < n → ∃ a, P k a) : ∃ f : Nat → α, ∀ k, k < n → P k (f k) :=
  ⟨fun k => if hk : k < n then (h k hk).choose else default, fun k hk => by simp only [hk, dif_pos]; exact (h k hk).choose_spec⟩
theorem u8_wf {a : Int} (h : (Lit.int .u8 a).wf = true) : ∃ n : Nat, a = n ∧ n < 256 := by
  simp [Lit.wf, IntKind.min, IntKind.max, IntKind.bits, IntKind.signed] at h
  exact ⟨a.toNat, by omega, by omega⟩
theorem cells_u8 : Tryd.prog.cellsOf 5 = 1 := by kernel_rfl
end Go.Proofs.YtdfoehcdabmagaaDoor
set_option maxRecDepth 100000
namespace Go.Proofs.YtdfoehcdabmagaaDoor
open Go.ChangeShapes Go.WideShapes Go.ChangeAt Go.RowKit Go.Deep
section
variable {H : Type} {enc : TypeId × Value → H} {w : World} {base : Nat} {spare : Nat → Bool} {held : Bool}
set_option maxRecDepth 100000 in
theorem open_byts {r : Reach} {b0 : Nat} {v : Value} {d : DataW H} {p : List MemPlace} (hv : Value.okWide Tryd.prog w r b0 39 v) (h : DataW.Trod enc Tryd.prog w base spare held 39 v d p) :
    ∃ (A : Option Addr) (l : List Nat) (n cap : Nat), v = .slice A n cap ∧ l.length = n ∧ n ≤ cap ∧ cap ≤ maxLen ∧ B256 l ∧ Byt w w.heap.size A l ∧ (A = none → n = 0 ∧ cap = 0) := by
  obtain ⟨A, n, cap, rfl⟩ := okWide_slice Tryd.underlying39 hv
  obtain ⟨fuel, hf⟩ := h
  rcases open_ints Tryd.underlying39 Tryd.underlying5 cells_u8 hf with ⟨hcs, _⟩ | ⟨a, len, cap', zs, hcs, _, hl, hm, hz, _, hcell, hwz⟩
  · simp [Value.cells] at hcs
    obtain ⟨rfl, rfl, rfl⟩ := hcs
    exact ⟨none, [], 0, 0, rfl, rfl, Nat.le_refl _, Nat.zero_le _, (fun x hx => by cases hx), Byt.none rfl, fun _ => ⟨rfl, rfl⟩⟩
  · simp [Value.cells] at hcs
    obtain ⟨rfl, rfl, rfl⟩ := hcs
    have hnz : n ≤ zs.length := by rw [hz]; split <;> omega
    have hlen : ((zs.take n).map Int.toNat).length = n := by rw [List.length_map, List.length_take]; omega
    have hat : ∀ i, i < n → ∃ k : Nat, zs.getD i 0 = k ∧ k < 256 ∧ ((zs.take n).map Int.toNat).getD i 0 = k := fun i hi => by
      have hi' : i < zs.length := by omega
      have hg : zs.getD i 0 = zs[i] := by rw [List.getD_eq_getElem?_getD, List.getElem?_eq_getElem hi']; rfl
      obtain ⟨k, hk, hk2⟩ := u8_wf (hwz zs[i] (List.getElem_mem hi'))
      refine ⟨k, hg.trans hk, hk2, ?_⟩
      rw [List.getD_eq_getElem?_getD, List.getElem?_map, List.getElem?_take_of_lt hi, List.getElem?_eq_getElem hi', hk]
      rfl
    refine ⟨some a, (zs.take n).map Int.toNat, n, cap, rfl, hlen, hl, hm, fun x hx => ?_, fun hn => ?_, fun h => by cases h⟩
    · obtain ⟨i, hi⟩ := List.getElem?_of_mem hx
      have hin : i < n := by have := (List.getElem?_eq_some_iff.1 hi).1; omega
      obtain ⟨k, _, hk, he⟩ := hat i hin
      rw [List.getD_eq_getElem?_getD, hi] at he
      have : x = k := he
      omega
    · rw [hlen] at hn
      have h0 := hcell 0 (by omega)
      have hsp : a.spot = none := by
        simp only [Addr.add, if_true] at h0
        unfold World.cell? at h0
        split at h0
        · cases hs : a.spot with
          | none => rfl
          | some s => simp [hs] at h0
        · cases h0
      have hblk : a.block < w.heap.size := by
        have := World.block_lt_of_cell? w _ h0
        simpa [Addr.add] using this
      obtain ⟨b, o, sp⟩ := a
      subst hsp
      refine ⟨b, o, rfl, hblk, fun i hi => ?_⟩
      rw [hlen] at hi
      obtain ⟨k, h1, _, h2⟩ := hat i hi
      have h3 := hcell i (by omega)
      rw [Addr.add_mid, h1] at h3
      rw [h3, h2]
end
end Go.Proofs.YtdfoehcdabmagaaDoor
set_option maxRecDepth 100000
namespace Go.Proofs.YtdfoehcdabmagaaDoor
open Go.ChangeShapes Go.WideShapes Go.ChangeAt Go.RowKit Go.Deep
/-- A slice of slices of bytes that came in; a part that is nil has no bytes and no room. -/
def PrtsN (w : World) (B : Nat) (A : Option Addr) (ls : List (List Nat)) : Prop :=
  0 < ls.length → ∃ b o, A = some ⟨b, o, none⟩ ∧ b < B ∧ ∀ i, i < ls.length → ∃ A' c, w.cell? ⟨b, o + i, none⟩ = some (.slice A' (ls.getD i []).length c) ∧ (ls.getD i []).length ≤ c ∧ c ≤ maxLen ∧ Byt w B A' (ls.getD i []) ∧ (A' = none → (ls.getD i []).length = 0 ∧ c = 0)
theorem PrtsN.below {B B' : Nat} {w w' : World} {A : Option Addr} {ls : List (List Nat)} (h : PrtsN w B A ls) (hb : Below B' w w') (hB : B ≤ B') : PrtsN w' B A ls := fun hn => by
  obtain ⟨b, o, rfl, hl, hr⟩ := h hn
  refine ⟨b, o, rfl, hl, fun i hi => ?_⟩
  obtain ⟨A', c, h1, h2, h3, h4, h5⟩ := hr i hi
  exact ⟨A', c, (hb.cell (p := ⟨b, o + i, none⟩) (by show b < B'; omega)).trans h1, h2, h3, h4.below hb hB, h5⟩
theorem PrtsN.more {w : World} {B B' : Nat} {A : Option Addr} {ls : List (List Nat)} (h : PrtsN w B A ls) (hB : B ≤ B') : PrtsN w B' A ls := fun hn => by
  obtain ⟨b, o, rfl, hl, hr⟩ := h hn
  refine ⟨b, o, rfl, by omega, fun i hi => ?_⟩
  obtain ⟨A', c, h1, h2, h3, h4, h5⟩ := hr i hi
  exact ⟨A', c, h1, h2, h3, h4.more hB, h5⟩
theorem cells_sl : Tryd.prog.cellsOf 39 = 1 := by kernel_rfl
section
variable {H : Type} {enc : TypeId × Value → H} {w : World} {base : Nat} {spare : Nat → Bool} {held : Bool}
theorem trod_byts {fuel : Nat} {cs : List Value} {x : DataW H × List MemPlace} (h : DataW.trod enc Tryd.prog w base spare held fuel 39 cs = some x) :
    ∃ (A : Option Addr) (l : List Nat) (cap : Nat), cs = [.slice A l.length cap] ∧ l.length ≤ cap ∧ cap ≤ maxLen ∧ B256 l ∧ Byt w w.heap.size A l ∧ (A = none → l.length = 0 ∧ cap = 0) := by
  rcases open_ints Tryd.underlying39 Tryd.underlying5 cells_u8 h with ⟨hcs, _⟩ | ⟨a, n, cap, zs, hcs, _, hl, hm, hz, _, hcell, hwz⟩
  · subst hcs
    exact ⟨none, [], 0, rfl, Nat.le_refl _, Nat.zero_le _, (fun x hx => by cases hx), Byt.none rfl, fun _ => ⟨rfl, rfl⟩⟩
  · subst hcs
    have hnz : n ≤ zs.length := by rw [hz]; split <;> omega
    have hlen : ((zs.take n).map Int.toNat).length = n := by rw [List.length_map, List.length_take]; omega
    have hat : ∀ i, i < n → ∃ k : Nat, zs.getD i 0 = k ∧ k < 256 ∧ ((zs.take n).map Int.toNat).getD i 0 = k := fun i hi => by
      have hi' : i < zs.length := by omega
      have hg : zs.getD i 0 = zs[i] := by rw [List.getD_eq_getElem?_getD, List.getElem?_eq_getElem hi']; rfl
      obtain ⟨k, hk, hk2⟩ := u8_wf (hwz zs[i] (List.getElem_mem hi'))
      refine ⟨k, hg.trans hk, hk2, ?_⟩
      rw [List.getD_eq_getElem?_getD, List.getElem?_map, List.getElem?_take_of_lt hi, List.getElem?_eq_getElem hi', hk]
      rfl
    refine ⟨some a, (zs.take n).map Int.toNat, cap, by rw [hlen], by rw [hlen]; exact hl, hm, fun x hx => ?_, fun hn => ?_, fun h => by cases h⟩
    · obtain ⟨i, hi⟩ := List.getElem?_of_mem hx
      have hin : i < n := by have := (List.getElem?_eq_some_iff.1 hi).1; omega
      obtain ⟨k, _, hk, he⟩ := hat i hin
      rw [List.getD_eq_getElem?_getD, hi] at he
      have : x = k := he
      omega
    · rw [hlen] at hn
      have h0 := hcell 0 (by omega)
      have hsp : a.spot = none := by
        simp only [Addr.add, if_true] at h0
        unfold World.cell? at h0
        split at h0
        · cases hs : a.spot with
          | none => rfl
          | some s => simp [hs] at h0
        · cases h0
      have hblk : a.block < w.heap.size := by
        have := World.block_lt_of_cell? w _ h0
        simpa [Addr.add] using this
      obtain ⟨b, o, sp⟩ := a
      subst hsp
      refine ⟨b, o, rfl, hblk, fun i hi => ?_⟩
      rw [hlen] at hi
      obtain ⟨k, h1, _, h2⟩ := hat i hi
      have h3 := hcell i (by omega)
      rw [Addr.add_mid, h1] at h3
      rw [h3, h2]
set_option maxRecDepth 100000 in
theorem open_prts {r : Reach} {b0 : Nat} {v : Value} {d : DataW H} {p : List MemPlace} (hv : Value.okWide Tryd.prog w r b0 68 v) (h : DataW.Trod enc Tryd.prog w base spare held 68 v d p) :
    ∃ (A : Option Addr) (ls : List (List Nat)) (n cap : Nat), v = .slice A n cap ∧ ls.length = n ∧ n ≤ cap ∧ cap ≤ maxLen ∧ (∀ l ∈ ls, B256 l) ∧ PrtsN w w.heap.size A ls ∧ (A = none → n = 0 ∧ cap = 0) := by
  obtain ⟨A, n, cap, rfl⟩ := okWide_slice Tryd.underlying68 hv
  obtain ⟨fuel, hf⟩ := h
  rcases open_slice Tryd.underlying68 hf with ⟨hcs, _⟩ | ⟨a, len, cap', m, fu, D, Pl, hcs, hb, hl, hm, hmm, hx, hi⟩
  · simp [Value.cells] at hcs
    obtain ⟨rfl, rfl, rfl⟩ := hcs
    exact ⟨none, [], 0, 0, rfl, rfl, Nat.le_refl _, Nat.zero_le _, (fun x hx => by cases hx), (fun h => absurd h (by simp)), fun _ => ⟨rfl, rfl⟩⟩
  · simp [Value.cells] at hcs
    obtain ⟨rfl, rfl, rfl⟩ := hcs
    have hnm : n ≤ m := by rw [hmm]; split <;> omega
    have one : ∀ i, i < n → ∃ y : List Nat, B256 y ∧ ∃ (A' : Option Addr) (c : Nat), w.cell? (a.add i) = some (.slice A' y.length c) ∧ y.length ≤ c ∧ c ≤ maxLen ∧ Byt w w.heap.size A' y ∧ (A' = none → y.length = 0 ∧ c = 0) := fun i hin => by
      obtain ⟨cs', hc, ht⟩ := hi i (by omega)
      obtain ⟨A', y, c, e, h1, h2, h3, h4, h5⟩ := trod_byts ht
      subst e
      have h6 := (World.cells?_some hc).2.2 0 (by rw [cells_sl]; omega)
      rw [Go.Deep.add_add, cells_sl, Nat.mul_one, Nat.add_zero] at h6
      exact ⟨y, h3, A', c, h6, h1, h2, h4, h5⟩
    obtain ⟨F, hF⟩ := choose_lt one
    have hg : ∀ i, i < n → (((List.range n).map F).getD i []) = F i := fun i hi => by
      rw [List.getD_eq_getElem?_getD, List.getElem?_map, List.getElem?_range hi]; rfl
    refine ⟨some a, (List.range n).map F, n, cap, rfl, by simp, hl, hm, fun l hl2 => ?_, fun hn => ?_, fun h => by cases h⟩
    · obtain ⟨i, hi2, rfl⟩ := List.mem_map.1 hl2
      exact (hF i (List.mem_range.1 hi2)).1
    · have hn' : 0 < n := by simpa using hn
      obtain ⟨_, A0, c0, h0, _⟩ := hF 0 hn'
      have hsp : a.spot = none := by
        simp only [Addr.add, if_true] at h0
        unfold World.cell? at h0
        split at h0
        · cases hs : a.spot with
          | none => rfl
          | some s => simp [hs] at h0
        · cases h0
      have hblk : a.block < w.heap.size := by
        have := World.block_lt_of_cell? w _ h0
        simpa [Addr.add] using this
      obtain ⟨b, o, sp⟩ := a
      subst hsp
      refine ⟨b, o, rfl, hblk, fun i hi2 => ?_⟩
      have hin : i < n := by simpa using hi2
      obtain ⟨_, A', c, h1, h2, h3, h4, h5⟩ := hF i hin
      rw [Addr.add_mid] at h1
      rw [hg i hin]
      exact ⟨A', c, h1, h2, h3, h4, h5⟩
end
end Go.Proofs.YtdfoehcdabmagaaDoor
set_option maxRecDepth 100000
namespace Go.Proofs.YtdfoehcdabmagaaDoor
open Go.ChangeShapes Go.WideShapes Go.ChangeAt Go.RowKit
attribute [local go_sem] Gives
/-- Slices of slices that are not large. -/
structure Rws (w : World) (A : Option Addr) (ls : List (List Nat)) (n cp : Nat) : Prop where
  len : ls.length = n
  cap : n ≤ cp
  max : cp ≤ maxLen
  b256 : ∀ l ∈ ls, B256 l
  none : A = none → n = 0 ∧ cp = 0
  prts : PrtsN w w.heap.size A ls
theorem Rws.on {w w' : World} {A : Option Addr} {ls : List (List Nat)} {n cap : Nat} (h : Rws w A ls n cap) (hb : Below w.heap.size w w') : Rws w' A ls n cap where
  len := h.len
  cap := h.cap
  max := h.max
  b256 := h.b256
  none := h.none
  prts := (h.prts.below hb (Nat.le_refl _)).more hb.size
theorem getD_mem {ls : List (List Nat)} {i : Nat} (h : i < ls.length) : ls.getD i [] ∈ ls := by
  rw [List.getD_eq_getElem?_getD, List.getElem?_eq_getElem h]; exact List.getElem_mem h
theorem Rws.part {w : World} {A : Option Addr} {ls : List (List Nat)} {n cap : Nat} (h : Rws w A ls n cap) {i : Nat} (hi : i < n) :
    ∃ b o A' c, A = some ⟨b, o, .none⟩ ∧ b < w.heap.size ∧ w.cell? ⟨b, o + i, .none⟩ = some (.slice A' (ls.getD i []).length c) ∧ Arg w A' (ls.getD i []) (ls.getD i []).length c := by
  obtain ⟨b, o, rfl, hl, hr⟩ := h.prts (by rw [h.len]; omega)
  obtain ⟨A', c, h1, h2, h3, h4, h5⟩ := hr i (by rw [h.len]; exact hi)
  exact ⟨b, o, A', c, rfl, hl, h1, rfl, h2, h3, h.b256 _ (getD_mem (by rw [h.len]; exact hi)), h5, h4⟩
theorem flatP_step {ls : List (List Nat)} {i : Nat} (h : i < ls.length) : BytM.flatP (ls.take (i + 1)) = BytM.flatP (ls.take i) ++ (BytM.dig 4 (ls.getD i []).length ++ ls.getD i []) := by
  have e : ls.getD i [] = ls[i] := by rw [List.getD_eq_getElem?_getD, List.getElem?_eq_getElem h]; rfl
  rw [List.take_succ_eq_append_getElem h, ← e, BytM.flatP_append]
  show _ ++ (BytM.dig 4 _ ++ _ ++ []) = _
  rw [List.append_nil]
theorem flatP_take_le (ls : List (List Nat)) (i : Nat) : (BytM.flatP (ls.take i)).length ≤ (BytM.flatP ls).length := by
  conv => rhs; rw [← List.take_append_drop i ls, BytM.flatP_append, List.length_append]
  omega
set_option maxHeartbeats 400000 in
theorem prow_bad (d : Value) (A : Option Addr) (n cap : Nat) (h : 16 < n) (W : World) :
    Calls Tryd.prog 33 #[d, .slice A n cap] W fun e w' => e = .returned (.tuple #[.slice none 0 0, .int .i64 3]) ∧ W = w' := by
  have t : decide ((16 : Int) < (n : Int)) = true := decide_eq_true (by omega)
  clear h
  go_enter Tryd.func33, Tryd.ntmps33
  go_wp2_with fail
  go_ret2
  exact ⟨rfl, rfl⟩
set_option maxHeartbeats 400000 in
theorem rrow_bad (d : Value) (A : Option Addr) (n cap : Nat) (h : 16 < n) (W : World) :
    Calls Tryd.prog 41 #[d, .slice A n cap] W fun e w' => e = .returned (.tuple #[.slice none 0 0, .int .i64 3]) ∧ W = w' := by
  have t : decide ((16 : Int) < (n : Int)) = true := decide_eq_true (by omega)
  clear h
  go_enter Tryd.func41, Tryd.ntmps41
  go_wp2_with fail
  go_ret2
  exact ⟨rfl, rfl⟩
end Go.Proofs.YtdfoehcdabmagaaDoor
set_option maxRecDepth 100000
namespace Go.Proofs.YtdfoehcdabmagaaDoor
open Go.ChangeShapes Go.WideShapes Go.ChangeAt Go.RowKit
attribute [local go_sem] Gives
theorem dig1 {d : Nat} (h : d < 256) : BytM.dig 1 d = [d] := by
  show [d / 256 ^ 0 % 256] = [d]
  rw [Nat.pow_zero, Nat.div_one, Nat.mod_eq_of_lt h]
set_option maxHeartbeats 400000 in
theorem prow_any (d : Nat) (hd : d < 256) (A : Option Addr) (ls : List (List Nat)) (n cap : Nat) (hn : n ≤ 16) (hz : (BytM.flatP ls).length ≤ 800000) (W : World) (h : Rws W A ls n cap) :
    Calls Tryd.prog 33 #[.int .u8 d, .slice A n cap] W fun e w' => ∃ v, e = .returned (.tuple #[v, .int .i64 0]) ∧ Own 5 .u8 w' W.heap.size v (BytM.rowB d ls) ∧ Below W.heap.size W w' := by
  have t : decide ((16 : Int) < (n : Int)) = false := decide_eq_false (by omega)
  have H := hid h
  have HZ := hid hz
  have D1 := hid (dig1 hd)
  have N1 := hid (dig1 (d := n) (by omega))
  clear h hz
  go_enter Tryd.func33, Tryd.ntmps33
  go_wp2_with fail
  clear t
  go_loopw [6, 17] (fun u i wr => ∃ (k L : Nat), k ≤ n ∧ i = .int .i64 k ∧ u = .int .i64 ((2 + L : Nat) : Int) ∧ L ≤ 800000 ∧ Hid (L = (BytM.flatP (ls.take k)).length) ∧ W = wr) (fun _ i _ => n - (intOf i).toNat)
  case atStart => exact ⟨0, 0, by omega, rfl, rfl, by omega, hid rfl, rfl⟩
  case round =>
    obtain ⟨k, L, hk, rfl, rfl, hL, hLe, rfl⟩ := hrel
    by_cases hlt : k < n
    · have tk : (k : Int) < (n : Int) := by omega
      obtain ⟨b, o, A', c, rfl, _, q1, _⟩ := H.out.part hlt
      have hst := flatP_step (ls := ls) (i := k) (by rw [H.out.len]; exact hlt)
      have hle := flatP_take_le ls (k + 1)
      have hst2 := congrArg List.length hst
      rw [List.length_append, List.length_append, BytM.dig_length, ← hLe.out] at hst2
      have hM : (ls.getD k []).length ≤ 800000 := by have := HZ.out; omega
      generalize (ls.getD k []).length = M at *
      have hL2 : L + (4 + M) ≤ 800000 := by have := HZ.out; omega
      have S2 := hid hst2.symm
      clear hst hle hst2
      go_wp2_with fail
      go_roundw
      case rel => exact ⟨k + 1, L + (4 + M), by omega, by go_num, by go_num, hL2, S2, trivial⟩
      case measure => simp [intOf] <;> omega
    · obtain rfl : k = n := by omega
      have hL2 := hLe.out
      rw [List.take_of_length_le (by rw [H.out.len]; exact Nat.le_refl _)] at hL2
      have HL2 := hid hL2
      clear hL2 hLe
      have hk64 : (k : Int) ≤ 16 := by omega
      go_upto_region 10 with ((with_reducible apply mk0 (n := 2 + L)); omega; rfl; rfl; intro v2 w2 o2 b2)
      have O2 := hid o2
      have B2 := hid b2
      clear o2 b2
      go_wp2_with fail
      refine (lay_any _ [] W.heap.size 1 d (by omega) (by simp) w2 O2.out B2.out.size).mono ?_
      rintro e w3 ⟨v3, rfl, o3, b3⟩
      rw [D1.out, List.nil_append] at o3
      have O3 := hid o3
      have B3 := hid (B2.out.trans b3)
      clear o3 b3 O2 B2
      go_wp2_with fail
      refine (lay_any v3 [d] W.heap.size 1 k (by omega) (by simp) w3 O3.out B3.out.size).mono ?_
      rintro e w4 ⟨v4, rfl, o4, b4⟩
      rw [N1.out] at o4
      have O4 := hid o4
      have B4 := hid (B3.out.trans b4)
      clear o4 b4 O3 B3
      go_wp2_with fail
      go_loopw [9, 40] (fun u i wr => ∃ (j : Nat) (vo : Value), j ≤ k ∧ i = .int .i64 j ∧ u = vo ∧ Hid (Own 5 .u8 wr W.heap.size vo (d :: k :: BytM.flatP (ls.take j))) ∧ Hid (Below W.heap.size W wr)) (fun _ i _ => k - (intOf i).toNat)
      case atStart => exact ⟨0, _, by omega, rfl, rfl, O4, B4⟩
      case round =>
        clear O4 B4
        obtain ⟨j, vo, hj, rfl, rfl, ho, hb⟩ := hrel
        by_cases hlt2 : j < k
        · have tj : (j : Int) < (k : Int) := by omega
          obtain ⟨b, o, A', c, rfl, hbl, q0, a1⟩ := H.out.part hlt2
          have q1 := (hb.out.cell (p := ⟨b, o + j, none⟩) hbl).trans q0
          have hst := flatP_step (ls := ls) (i := j) (by rw [H.out.len]; exact hlt2)
          have hle := flatP_take_le ls (j + 1)
          rw [hst, List.length_append, List.length_append, BytM.dig_length] at hle
          have hM : (ls.getD j []).length ≤ 800000 := by have := HZ.out; omega
          have hLt : (BytM.flatP (ls.take j)).length ≤ 800000 := by have := HZ.out; omega
          have HLT := hid hLt
          have ST := hid hst
          generalize ls.getD j [] = m at *
          have A1 := hid a1
          have HLE := hid (Nat.le_trans hle HZ.out)
          clear hst hle hLt a1 q0
          obtain ⟨M, hMe⟩ : ∃ M, M = m.length := ⟨_, rfl⟩
          rw [← hMe] at q1 hM
          have ME := hid hMe
          clear hMe
          go_wp2_with fail
          refine (lay_any u9 _ W.heap.size 4 M (by omega) (by simp only [List.length_cons]; have := HLT.out; omega) wr ho.out hb.out.size).mono ?_
          rintro e w5 ⟨v5, rfl, o5, b5⟩
          have O5 := hid o5
          have B5 := hid (hb.out.trans b5)
          have a5 := A1.out.on B5.out
          rw [← ME.out] at a5
          have A5 := hid a5
          clear o5 b5 a5 q1
          go_wp2_with (at_builtin; (with_reducible apply wappN_any eltB); rfl; rfl; exact A5.out.none; exact O5.out; exact A5.out.byt.nums; exact ME.out.symm; (simp only [List.length_append, List.length_cons, BytM.dig_length]; have := HLE.out; have := ME.out; omega); exact B5.out.size; intro v6 w6 o6 g6)
          have b6 := below_grown B5.out g6 O5.out (Nat.le_refl _) (Nat.le_refl _)
          go_roundw
          case rel => exact ⟨j + 1, v6, by omega, by go_num, rfl, hid (by rw [ST.out, ← ME.out, ← List.append_assoc]; exact o6), hid b6⟩
          case measure => simp [intOf] <;> omega
        · obtain rfl : j = k := by omega
          have ho2 := ho.out
          rw [List.take_of_length_le (by rw [H.out.len]; exact Nat.le_refl _)] at ho2
          have O2 := hid ho2
          have HN := hid H.out.len
          clear ho2 ho
          go_wp2_with fail
          go_ret2
          refine ⟨_, rfl, ?_, hb.out⟩
          unfold BytM.rowB
          rw [HN.out]
          exact O2.out
end Go.Proofs.YtdfoehcdabmagaaDoor
set_option maxRecDepth 100000
namespace Go.Proofs.YtdfoehcdabmagaaDoor
open Go.ChangeShapes Go.WideShapes Go.ChangeAt Go.RowKit
attribute [local go_sem] Gives
/-- A literal of two bytes is the call's own. -/
theorem Own.lit2 {w : World} {B x y : Nat} (hB : B ≤ w.heap.size) : Own 5 .u8 (w.alloc (.cells #[.int .u8 (x : Nat), .int .u8 (y : Nat)] 5)) B (.slice (some ⟨w.heap.size, 0, none⟩) 2 2) [x, y] :=
  ⟨rfl, .inr ⟨w.heap.size, 2, _, rfl, hB, heap_alloc_new w _, Nat.le_refl _, by unfold maxLen; omega, rfl, rfl⟩⟩
set_option maxHeartbeats 400000 in
theorem rrow_any (d : Nat) (A : Option Addr) (ls : List (List Nat)) (n cap : Nat) (hn : n ≤ 16) (hz : (BytM.flatP ls).length ≤ 800000) (W : World) (h : Rws W A ls n cap) :
    Calls Tryd.prog 41 #[.int .u8 d, .slice A n cap] W fun e w' => ∃ v, e = .returned (.tuple #[v, .int .i64 0]) ∧ Own 5 .u8 w' W.heap.size v (BytM.rowB d ls) ∧ Below W.heap.size W w' := by
  have t : decide ((16 : Int) < (n : Int)) = false := decide_eq_false (by omega)
  have H := hid h
  have HZ := hid hz
  clear h hz
  go_enter Tryd.func41, Tryd.ntmps41
  go_upto_region 4 with fail
  generalize hw2 : World.alloc W _ = w2
  have O2 : Hid (Own 5 .u8 w2 W.heap.size (.slice (some ⟨W.heap.size, 0, none⟩) 2 2) [d, n]) := hid (by rw [← hw2]; exact Own.lit2 (Nat.le_refl _))
  have B2 : Hid (Below W.heap.size W w2) := hid (by rw [← hw2]; exact (Below.refl _ _).alloc (Nat.le_refl _) _)
  clear t hw2
  go_wp2_with fail
  go_loopw [6, 7] (fun u i wr => ∃ (j : Nat) (vo : Value), j ≤ n ∧ i = .int .i64 j ∧ u = vo ∧ Hid (Own 5 .u8 wr W.heap.size vo (d :: n :: BytM.flatP (ls.take j))) ∧ Hid (Below W.heap.size W wr)) (fun _ i _ => n - (intOf i).toNat)
  case atStart => exact ⟨0, _, by omega, rfl, rfl, O2, B2⟩
  case round =>
    clear O2 B2
    obtain ⟨j, vo, hj, rfl, rfl, ho, hb⟩ := hrel
    by_cases hlt2 : j < n
    · have tj : (j : Int) < (n : Int) := by omega
      obtain ⟨b, o, A', c, rfl, hbl, q0, a1⟩ := H.out.part hlt2
      have Q0 := hid fun w' (hw : Below W.heap.size W w') => (hw.cell (p := ⟨b, o + j, none⟩) hbl).trans q0
      have q1 := Q0.out _ hb.out
      have hst := flatP_step (ls := ls) (i := j) (by rw [H.out.len]; exact hlt2)
      have hle := flatP_take_le ls (j + 1)
      rw [hst, List.length_append, List.length_append, BytM.dig_length] at hle
      have hM : (ls.getD j []).length ≤ 800000 := by have := HZ.out; omega
      have hLt : (BytM.flatP (ls.take j)).length ≤ 800000 := by have := HZ.out; omega
      have HLT := hid hLt
      have ST := hid hst
      generalize ls.getD j [] = m at *
      have A1 := hid a1
      have HLE := hid (Nat.le_trans hle HZ.out)
      clear hst hle hLt a1 q0
      obtain ⟨M, hMe⟩ : ∃ M, M = m.length := ⟨_, rfl⟩
      rw [← hMe] at q1 hM Q0
      have ME := hid hMe
      rw [← hMe] at ST
      clear hMe
      have D := hid (rdig_any 4 M (by omega) (by omega) (by omega) wr)
      have hd := BytM.dig_256 4 M
      have hdl := BytM.dig_length 4 M
      generalize BytM.dig 4 M = dg at *
      have H6 := hid hd
      have DL := hid hdl
      clear hd hdl
      go_wp2_with fail
      refine D.out.mono ?_
      rintro e w5 ⟨v5, rfl, o5, b5⟩
      obtain ⟨A5, c5, e5, a5⟩ := o5.arg H6.out
      subst e5
      have B5 := hid (hb.out.trans (b5.mono hb.out.size))
      have O5 := hid (ho.out.below b5)
      have A5' := hid a5
      have q5 := Q0.out _ B5.out
      have p5 := A1.out.on B5.out
      rw [← ME.out] at p5
      have P5 := hid p5
      clear o5 b5 a5 q1 p5
      go_upto_region 8 with (at_builtin; (with_reducible apply wappN_any eltB); rfl; rfl; exact A5'.out.none; exact O5.out; exact A5'.out.byt.nums; rfl; (simp only [List.length_cons]; have := HLE.out; have := DL.out; omega); exact B5.out.size; intro v6 w6 o6 g6)
      have B6 := hid (below_grown B5.out g6 O5.out (Nat.le_refl _) (Nat.le_refl _))
      have O6 := hid o6
      have q6 := Q0.out _ B6.out
      have p6 := A1.out.on B6.out
      rw [← ME.out] at p6
      have P6 := hid p6
      clear o6 g6 q5 p6 P5 O5 B5
      go_wp2_with (at_builtin; (with_reducible apply wappN_any eltB); rfl; rfl; exact P6.out.none; exact O6.out; exact P6.out.byt.nums; exact ME.out.symm; (simp only [List.length_append, List.length_cons]; have := HLE.out; have := ME.out; have := DL.out; omega); exact B6.out.size; intro v7 w7 o7 g7)
      have b7 := below_grown B6.out g7 O6.out (Nat.le_refl _) (Nat.le_refl _)
      go_roundw
      case rel => exact ⟨j + 1, v7, by omega, by go_num, rfl, hid (by rw [ST.out, ← List.append_assoc]; exact o7), hid b7⟩
      case measure => simp [intOf] <;> omega
    · obtain rfl : j = n := by omega
      have ho2 := ho.out
      rw [List.take_of_length_le (by rw [H.out.len]; exact Nat.le_refl _)] at ho2
      have O2 := hid ho2
      have HN := hid H.out.len
      clear ho2 ho
      go_wp2_with fail
      go_ret2
      refine ⟨_, rfl, ?_, hb.out⟩
      unfold BytM.rowB
      rw [HN.out]
      exact O2.out
end Go.Proofs.YtdfoehcdabmagaaDoor
set_option maxRecDepth 100000
namespace Go.Proofs.YtdfoehcdabmagaaDoor
section
variable {P : Program} {ops : Array Oper}
theorem wpK_list {C : World → Prop} {Q : Exit → Act → World → Prop} {rest : List Oper} : ∀ (l : List Oper) (a : Act) (w : World), wpK P ops C (fun a' => ∀ w', C w' → wpList P ops Q rest a' w') l a → C w → wpList P ops Q (l ++ rest) a w
  | [], _, w, h, hC => h w hC
  | o :: l, a, w, h, hC => by
    obtain ⟨v, h1, h2⟩ := h
    rw [List.cons_append, wpList]
    rcases h1 with ⟨hw, hg⟩ | ⟨hw, rfl⟩
    · rw [if_pos hw]
      exact .inl (wp_of_gives (hg w hC) fun w' hC' => wpK_list l _ w' h2 hC')
    · rw [if_neg (by rw [hw]; exact Bool.false_ne_true)]
      exact wpK_list l _ w h2 hC
theorem wp_region_fixed {id : Nat} {Q : Exit → Act → World → Prop} {C : World → Prop} {a : Act} {w : World} {l : List Oper} (n : Nat) (hC : C w)
    (h : wpK P l.toArray C (fun a' => ∀ w', C w' → wpList P l.toArray Q (l.drop n) a' w') (l.take n) a) : (Code.region id l.toArray false).wp P Q a w := by
  refine wp_region_lit ?_
  have := wpK_list _ _ _ h hC
  rwa [List.take_append_drop] at this
end
end Go.Proofs.YtdfoehcdabmagaaDoor
set_option maxRecDepth 100000
namespace Go.Proofs.YtdfoehcdabmagaaDoor
open Go.ChangeShapes Go.WideShapes Go.ChangeAt Go.RowKit
section
variable {ops : Array Oper} {a : Act} {rest : List Oper} {dst : Option Tmp} {ty : TypeId} {pos : String} {after : Array Edge} {x : Operand} {g o n : Nat} {f : Nat → Nat} {T : TypeId} {C : World → Prop} {Qk : Act → Prop} {gd : Option (Nat × Bool)}
theorem bldA (hT : ArT T n) (hwt : Region.wanted ⟨dst, .load T x, ty, pos, after, gd⟩ (yielded ops a.tmps) = true) (hx : a.eval x = .pointer (some ⟨g, o, none⟩)) (hb : ∀ w, C w → w.rangeAt g o (ar n f).toList) (h : wpB Tryd.prog ops C Qk rest (a.put dst (.agg (ar n f)))) :
    wpB Tryd.prog ops C Qk (⟨dst, .load T x, ty, pos, after, gd⟩ :: rest) a :=
  wpB_val hwt (fun w hw => gives_value (w' := w) (by simp only [execOp, hx, Sem.run_bind, run_ldm hT (hb w hw), Result.andThen_ok, Sem.run_pure]) ⟨hw, Below.refl _ _⟩) h
end
end Go.Proofs.YtdfoehcdabmagaaDoor
set_option maxRecDepth 100000
namespace Go.Proofs.YtdfoehcdabmagaaDoor
open Go.ChangeShapes Go.WideShapes Go.ChangeAt Go.RowKit
open DvP (tK tT sub rsub_any)
attribute [local go_sem] Gives
section
variable {ops : Array Oper} {a : Act} {rest : List Oper} {dst : Option Tmp} {ty r : TypeId} {pos : String} {after : Array Edge} {x y : Operand} {s t : ByteArray} {gd : Option (Nat × Bool)} {C : World → Prop} {Qk : Act → Prop}
theorem exec_cat (w : World) (hx : a.eval x = .string s) (hy : a.eval y = .string t) (h : s.size + t.size ≤ 1000000) : (execOp a.eval ⟨dst, .binOp .add 9 x y r, ty, pos, after, gd⟩).run Tryd.prog w = .ok (.value (.string (s ++ t))) w := by
  have hz : ¬ 9223372036854775807 < s.size + t.size := by omega
  have h1 : (eqGuard .add 9 x y (.string s) (.string t)).run Tryd.prog w = .ok () w := by simp [eqGuard, go_sem]
  have h2 : (binOp .add 9 (.string s) (.string t)).run Tryd.prog w = .ok (.string (s ++ t)) w := by simp [go_sem, hz]
  simp only [execOp, hx, hy, Sem.run_bind, h1, h2, Result.andThen_ok, Sem.run_pure]
theorem kcat (hwt : Region.wanted ⟨dst, .binOp .add 9 x y r, ty, pos, after, gd⟩ (yielded ops a.tmps) = true) (hx : a.eval x = .string s) (hy : a.eval y = .string t) (hs : s.size + t.size ≤ 1000000)
    (h : wpK Tryd.prog ops C Qk rest (a.put dst (.string (s ++ t)))) : wpK Tryd.prog ops C Qk (⟨dst, .binOp .add 9 x y r, ty, pos, after, gd⟩ :: rest) a :=
  wpK_val hwt (fun w hw => gives_value (w' := w) (exec_cat w hx hy hs) hw) h
end
namespace BxP
set_option maxHeartbeats 400000 in
set_option maxRecDepth 100000 in
theorem rkbytes_any (f : Nat → Nat) (hf : ∀ k, f k < 256) (w : World) :
    Calls Tryd.prog 31 #[.agg (ar 32 f)] w fun e w' => ∃ v, e = .returned v ∧ Own 5 .u8 w' w.heap.size v (HmM.dl f) ∧ Below w.heap.size w w' := by
  have HF := hid hf
  clear hf
  go_enter Tryd.func31, Tryd.ntmps31
  go_upto_region 1 with fail
  generalize hw1 : World.alloc w _ = w1
  have b1 : Blk w1 w.heap.size 23 (ar 32 f) := by rw [← hw1]; exact Blk.top rfl rfl
  have hb : Below w.heap.size w w1 := by rw [← hw1]; exact (Below.refl _ _).alloc (Nat.le_refl _) _
  clear hw1
  have B1 := hid b1
  have BEL := hid hb
  have hgl := b1.lt
  clear b1 hb
  go_wp2_with fail
  go_loopw [3, 4] (fun u v wr => ∃ (i : Nat) (vo : Value), i ≤ 32 ∧ v = .int .i64 i ∧ u = vo ∧ Hid (Own 5 .u8 wr w1.heap.size vo ((HmM.dl f).take i)) ∧ Hid (Below w1.heap.size w1 wr)) (fun _ v _ => 32 - (intOf v).toNat)
  case atStart => exact ⟨0, _, by omega, rfl, rfl, hid Own.nil, hid (Below.refl _ _)⟩
  case round =>
    obtain ⟨i, vo, hi, rfl, rfl, ho, hb⟩ := hrel
    have hzw := hb.out.size
    by_cases hlt : i < 32
    · have ti : (i : Int) < 32 := by omega
      have q1 := ((B1.out.below hb.out hgl).cell i).trans (get_ar hlt)
      have hst := dl_take f hlt
      have hlen : ((HmM.dl f).take i).length = i := by rw [List.length_take, HmM.dl_length]; omega
      have hx := HF.out i
      generalize f i = x at *
      have HST := hid hst
      have HLEN := hid hlen
      clear hst hlen
      go_wp2_with (at_builtin; (with_reducible apply wappN eltB); rfl; rfl; exact ho.out.alloc _; exact nums_one (x := x) (B := wr.heap.size + 1) rfl (Nat.lt_succ_self _); rfl; (rw [HLEN.out]; omega); (simp; omega); intro v' w4 o4 g4)
      have b4 := below_grown (hb.out.alloc hzw (.cells #[.int .u8 (x : Nat)] 5)) g4 ho.out (Nat.le_refl _) (Nat.le_refl _)
      go_roundw
      case rel => exact ⟨i + 1, v', by omega, by go_num, rfl, hid (by rw [HST.out]; exact o4), hid b4⟩
      case measure => simp [intOf] <;> omega
    · obtain rfl : i = 32 := by omega
      have o9 := ho.out
      rw [dl_full] at o9
      have hfin := hid (BEL.out.trans (hb.out.mono BEL.out.size))
      have O9 := hid (o9.lower BEL.out.size)
      clear o9 ho
      go_wp2_with fail
      go_ret
      exact ⟨_, rfl, O9.out, hfin.out⟩
/-- The row of the domain B with the bytes of a key. -/
def rowK (f : Nat → Nat) : List Nat := BytM.rowB 66 [HmM.dl f]
theorem flat_key (f : Nat → Nat) : (BytM.flatP [HmM.dl f]).length = 36 := by
  show (BytM.dig 4 (HmM.dl f).length ++ HmM.dl f ++ []).length = _
  rw [List.append_nil, List.length_append, BytM.dig_length, HmM.dl_length]
theorem rowK_length (f : Nat → Nat) : (rowK f).length = 38 := by
  unfold rowK BytM.rowB
  rw [List.length_cons, List.length_cons, flat_key]
theorem rowK_256 {f : Nat → Nat} (h : ∀ k, f k < 256) : B256 (rowK f) := by
  unfold rowK BytM.rowB
  intro x hx
  rcases List.mem_cons.1 hx with rfl | hx
  · decide
  · rcases List.mem_cons.1 hx with rfl | hx
    · show 1 < 256
      decide
    · have hx' : x ∈ BytM.dig 4 (HmM.dl f).length ++ HmM.dl f ++ [] := hx
      rw [List.append_nil] at hx'
      exact ((BytM.dig_256 _ _).append (HmM.dl_256 h)) x hx'
/-- One part, as a list of parts. -/
theorem rws_single {w : World} {g cap : Nat} {t : TypeId} {A : Option Addr} {l : List Nat} (hb : Blk w g t #[.slice A l.length cap]) (ha : Arg w A l l.length cap) : Rws w (some ⟨g, 0, none⟩) [l] 1 1 where
  len := rfl
  cap := Nat.le_refl _
  max := by unfold maxLen; omega
  b256 m hm := by rw [List.mem_singleton] at hm; subst hm; exact ha.b256
  none h := by cases h
  prts _ := ⟨g, 0, rfl, hb.lt, fun i hi => by
    obtain rfl : i = 0 := by simpa using hi
    exact ⟨A, cap, hb.cell 0, ha.cap, ha.max, ha.byt, ha.none⟩⟩
set_option maxHeartbeats 400000 in
set_option maxRecDepth 100000 in
theorem rrow10_any (f : Nat → Nat) (hf : ∀ k, f k < 256) (w : World) :
    Calls Tryd.prog 27 #[.agg (ar 32 f)] w fun e w' => ∃ v, e = .returned v ∧ Own 5 .u8 w' w.heap.size v (rowK f) ∧ Below w.heap.size w w' := by
  have HF := hid hf
  clear hf
  go_enter Tryd.func27, Tryd.ntmps27
  go_upto_region 1 with fail
  generalize hw1 : World.alloc w _ = w1
  have b1 := hid (show Blk w1 w.heap.size 23 (ar 32 f) by rw [← hw1]; exact Blk.top rfl rfl)
  have hb := hid (show Below w.heap.size w w1 by rw [← hw1]; exact (Below.refl _ _).alloc (Nat.le_refl _) _)
  clear hw1
  go_wp2_with ((with_reducible apply ldA tK); rfl; exact b1.out)
  refine (rkbytes_any f HF.out w1).mono ?_
  rintro e w2 ⟨v, rfl, o2, h2⟩
  obtain ⟨A, cap, rfl, aa⟩ := o2.arg (HmM.dl_256 HF.out)
  have cb := hid (hb.out.trans (h2.mono hb.out.size))
  have hr := rws_single (w := w2.alloc (.cells #[.slice A (HmM.dl f).length cap] 39)) (Blk.new _ _ _) (aa.on ((Below.refl _ _).alloc (Nat.le_refl _) _))
  have AA := hid aa
  clear b1 hb o2 h2 aa
  go_wp2_with fail
  generalize hw3 : World.alloc w2 _ = w3 at hr ⊢
  have db := hid (show Below w.heap.size w w3 by rw [← hw3]; exact cb.out.alloc cb.out.size _)
  have HR := hid hr
  clear hw3 hr cb AA
  refine (rrow_any 66 _ [HmM.dl f] 1 1 (by omega) (by rw [flat_key]; omega) w3 HR.out).mono ?_
  rintro e w4 ⟨v, rfl, o4, h4⟩
  have eb := hid (db.out.trans (h4.mono db.out.size))
  have O4 := hid (o4.lower db.out.size)
  clear db HR o4 h4
  go_wp2_with fail
  go_ret
  exact ⟨_, rfl, O4.out, eb.out⟩
def wPad : ByteArray := ⟨#[32, 112, 97, 100, 32]⟩
def wSeal : ByteArray := ⟨#[32, 115, 101, 97, 108, 32]⟩
/-- A label, a word, a number. -/
def lab (s what : ByteArray) (n : Nat) : ByteArray := s ++ what ++ str (dec n)
theorem lab_size {s what : ByteArray} {n : Nat} (hs : s.size ≤ 100) (hw : what.size ≤ 6) (hn : n < 18446744073709551616) : (lab s what n).size ≤ 126 := by
  unfold lab
  rw [ByteArray.size_append, ByteArray.size_append, str_size]
  have := dec_20 hn
  omega
set_option maxHeartbeats 800000 in
theorem rsealkey_any (k : Nat → Nat) (hk : ∀ i, k i < 256) (s : ByteArray) (hs : s.size ≤ 100) (n : Nat) (hn : n < 18446744073709551616) (w : World) :
    Calls Tryd.prog 26 #[.agg (ar 32 k), .string s, .int .u64 n] w fun e w' => ∃ v, e = .returned v ∧ Own 5 .u8 w' w.heap.size v (HmM.dl (sub k (lab s wSeal n))) ∧ Below w.heap.size w w' := by
  have HK := hid hk
  have HN := hid hn
  have hls := hid (lab_size hs (show wSeal.size ≤ 6 by decide) hn)
  have hsz := hid hs
  clear hk hn
  go_enter Tryd.func26, Tryd.ntmps26
  go_upto_region 1 with fail
  generalize hw1 : World.alloc w _ = w1
  have b1 := hid (show Blk w1 w.heap.size 23 (ar 32 k) by rw [← hw1]; exact Blk.top rfl rfl)
  have hb := hid (show Below w.heap.size w w1 by rw [← hw1]; exact (Below.refl _ _).alloc (Nat.le_refl _) _)
  clear hw1
  refine wp_region_tail (C := fun w' => Below w1.heap.size w1 w') 7 (by kernel_rfl) (by kernel_rfl) (by kernel_rfl) (Below.refl _ _).drew ?_
  simp only [List.take_succ_cons, List.take_zero, List.drop_succ_cons, List.drop_zero]
  apply kldA tK
  · rfl
  · rfl
  · exact fun w' hw' => (b1.out.below hw' b1.out.lt).head
  simp only [Act.put, List.setIfInBounds_toArray, List.set_cons_succ, List.set_cons_zero]
  apply wpK_val
  · rfl
  · intro w' hw'
    go_simp
    first | exact rfl | exact ⟨rfl, hw'⟩
  simp only [Act.put, List.setIfInBounds_toArray, List.set_cons_succ, List.set_cons_zero]
  apply kcat (s := s) (t := wSeal)
  · rfl
  · rfl
  · rfl
  · have := hsz.out; show s.size + 6 ≤ 1000000; omega
  simp only [Act.put, List.setIfInBounds_toArray, List.set_cons_succ, List.set_cons_zero]
  apply wpK_val
  · rfl
  · intro w' hw'
    go_simp
    first | exact rfl | exact ⟨rfl, hw'⟩
  simp only [Act.put, List.setIfInBounds_toArray, List.set_cons_succ, List.set_cons_zero]
  apply wpK_val
  · rfl
  · intro w' hw'
    go_simp
    exact (rdigits_any n HN.out w').mono fun e w2 h => ⟨h.1, hw'.trans (h.2.mono hw'.size)⟩
  simp only [Act.put, List.setIfInBounds_toArray, List.set_cons_succ, List.set_cons_zero]
  apply kcat (s := s ++ wSeal) (t := str (dec n))
  · rfl
  · rfl
  · rfl
  · rw [ByteArray.size_append, str_size]; have := hsz.out; have := dec_20 HN.out; show s.size + 6 + _ ≤ 1000000; omega
  simp only [Act.put, List.setIfInBounds_toArray, List.set_cons_succ, List.set_cons_zero]
  apply wpK_val
  · rfl
  · intro w' hw'
    go_simp
    exact (rsub_any k HK.out (lab s wSeal n) (by have := hls.out; omega) w').mono fun e w2 h => ⟨h.1, hw'.trans (h.2.mono hw'.size)⟩
  simp only [Act.put, List.setIfInBounds_toArray, List.set_cons_succ, List.set_cons_zero]
  refine wpK_nil fun w2 hw2 => ?_
  obtain ⟨F, hF⟩ : ∃ F, F = sub k (lab s wSeal n) := ⟨_, rfl⟩
  have HFE := hid hF
  have FB := hid (show ∀ i, F i < 256 from fun i => by rw [hF]; exact HmM.tag_256 _ _ i)
  rw [show s ++ wSeal ++ str (dec n) = lab s wSeal n from rfl, ← hF]
  have rb := hid (hb.out.trans (hw2.mono hb.out.size))
  clear b1 hb hw2 hF
  go_wp2_with fail
  refine (rkbytes_any F FB.out w2).mono ?_
  rintro e w3 ⟨v, rfl, o3, h3⟩
  have cb := hid (rb.out.trans (h3.mono rb.out.size))
  have O3 := hid (o3.lower rb.out.size)
  clear rb o3 h3
  go_wp2_with fail
  go_ret
  exact ⟨_, rfl, by rw [← HFE.out]; exact O3.out, cb.out⟩
end BxP
end Go.Proofs.YtdfoehcdabmagaaDoor
set_option maxRecDepth 100000
namespace Go.Proofs.YtdfoehcdabmagaaDoor
open Go.RowKit
/-- n sectors, one behind the other. -/
def secs (n : Nat) (F : Nat → Nat → Nat) : Array Value := row (n * 64) fun j => .int .u8 (F (j / 64) (j % 64))
theorem size_secs {n : Nat} {F : Nat → Nat → Nat} : (secs n F).size = n * 64 := size_row
theorem get_secs {n : Nat} {F : Nat → Nat → Nat} {i k : Nat} (hi : i < n) (hk : k < 64) : (secs n F)[i * 64 + k]? = some (.int .u8 (F i k)) := by
  unfold secs
  rw [get_row_lt (by omega)]
  rw [show (i * 64 + k) / 64 = i by omega, show (i * 64 + k) % 64 = k by omega]
theorem secs_ext {n : Nat} {F G : Nat → Nat → Nat} (h : ∀ i k, i < n → k < 64 → F i k = G i k) : secs n F = secs n G :=
  row_ext fun j hj => by rw [h (j / 64) (j % 64) (by omega) (Nat.mod_lt _ (by omega))]
theorem get_sec_list {f : Nat → Nat} {j : Nat} {v : Value} (h : (sec f).toList[j]? = some v) : j < 64 ∧ v = .int .u8 (f j) := by
  rw [Array.getElem?_toList] at h
  unfold sec at h
  rw [get_row] at h
  split at h
  · exact ⟨‹_›, (Option.some.inj h).symm⟩
  · cases h
theorem range_secs {w : World} {g n i : Nat} {t : TypeId} {F : Nat → Nat → Nat} (hb : Blk w g t (secs n F)) (hi : i < n) : w.rangeAt g (0 + i * 64) (sec (F i)).toList := fun j v hv => by
  obtain ⟨hj, rfl⟩ := get_sec_list hv
  rw [hb.cell, Nat.zero_add]
  exact get_secs hi hj

theorem extract_secs {n i : Nat} {F : Nat → Nat → Nat} (hi : i < n) : (secs n F).extract (i * 64) (i * 64 + 64) = sec (F i) := by
  apply Array.ext_getElem?
  intro k
  rw [Array.getElem?_extract, size_secs]
  unfold sec
  rw [get_row]
  by_cases hk : k < 64
  · rw [if_pos hk, if_pos (by omega)]
    exact get_secs hi hk
  · rw [if_neg hk, if_neg (by omega)]
theorem secs_one {n : Nat} {F : Nat → Nat → Nat} : (secs n F).all (·.oneCell') = true := row_one fun _ _ => rfl
theorem secs_set {n i k v : Nat} {F : Nat → Nat → Nat} (hk : k < 64) : (secs n F).setIfInBounds (i * 64 + k) (.int .u8 v) = secs n fun j l => if j = i ∧ l = k then v else F j l := by
  unfold secs
  rw [row_set]
  refine row_ext fun j _ => ?_
  by_cases h : j = i * 64 + k
  · have e1 : j / 64 = i := by omega
    have e2 : j % 64 = k := by omega
    simp [h, show (i * 64 + k) / 64 = i by omega, show (i * 64 + k) % 64 = k by omega]
  · have e : ¬ (j / 64 = i ∧ j % 64 = k) := by omega
    simp [h, e]
theorem Blk.at_ {w : World} {g n i k o : Nat} {t : TypeId} {F : Nat → Nat → Nat} (hb : Blk w g t (secs n F)) (hi : i < n) (hk : k < 64) (ho : o = i * 64 + k) : w.cell? ⟨g, o, none⟩ = some (.int .u8 (F i k : Nat)) := by
  rw [ho, hb.cell]; exact get_secs hi hk
theorem fold_row (off N : Nat) : ∀ (cs : List Value) (k : Nat) (g : Nat → Value),
    (cs.zipIdx k).foldl (fun acc x => acc.setIfInBounds (off + x.2) x.1) (row N g) = row N fun j => if off + k ≤ j ∧ j < off + k + cs.length then cs.getD (j - (off + k)) undef else g j
  | [], k, g => by
    simp only [List.zipIdx_nil, List.foldl_nil, List.length_nil, Nat.add_zero]
    exact row_ext fun j _ => by rw [if_neg (by omega)]
  | c :: cs, k, g => by
    rw [List.zipIdx_cons, List.foldl_cons, row_set, fold_row off N cs (k + 1)]
    refine row_ext fun j _ => ?_
    simp only [List.length_cons]
    by_cases h1 : j = off + k
    · subst h1
      rw [if_neg (by omega), if_pos rfl, if_pos (by omega), Nat.sub_self]; rfl
    · by_cases h2 : off + (k + 1) ≤ j ∧ j < off + (k + 1) + cs.length
      · rw [if_pos h2, if_pos (by omega), show j - (off + k) = (j - (off + (k + 1))) + 1 by omega]; rfl
      · rw [if_neg h2, if_neg h1]
        by_cases h3 : off + k ≤ j ∧ j < off + k + (cs.length + 1)
        · omega
        · rw [if_neg h3]
/-- The parts of a literal, from place i on. -/
def partsFrom : Nat → List (Nat → Nat) → List (Nat × Value)
  | _, [] => []
  | i, f :: l => (i, .agg (sec f)) :: partsFrom (i + 1) l
theorem getD_sec_list {f : Nat → Nat} {j : Nat} (h : j < 64) : (sec f).toList.getD j undef = .int .u8 (f j) := by
  rw [List.getD_eq_getElem?_getD, Array.getElem?_toList, get_sec h]; rfl
theorem fill_secs (N : Nat) {place : Nat → Option (Nat × Nat)} (hpl : ∀ i, i < N → place i = some (i * 64, 64)) : ∀ (l : List (Nat → Nat)) (i : Nat) (g : Nat → Value), i + l.length ≤ N →
    Instr.fill place (row (N * 64) g) (partsFrom i l) = some (row (N * 64) fun j => if i * 64 ≤ j ∧ j < (i + l.length) * 64 then .int .u8 (l.getD (j / 64 - i) (fun _ => 0) (j % 64)) else g j)
  | [], i, g, _ => by
    simp only [partsFrom, Instr.fill, List.length_nil, Nat.add_zero, Option.some.injEq]
    exact row_ext fun j _ => by rw [if_neg (by omega)]
  | f :: l, i, g, h => by
    simp only [List.length_cons] at h
    simp only [partsFrom, Instr.fill, Value.cells, size_sec, size_row, hpl i (by omega)]
    rw [if_neg (by simp; omega)]
    have e : (sec f).zipIdx.foldl (fun cs (c, j) => cs.setIfInBounds (i * 64 + j) c) (row (N * 64) g) = row (N * 64) fun j => if i * 64 ≤ j ∧ j < i * 64 + 64 then .int .u8 (f (j - i * 64)) else g j := by
      rw [← Array.foldl_toList, Array.toList_zipIdx]
      refine (fold_row (i * 64) (N * 64) (sec f).toList 0 g).trans ?_
      simp only [Array.length_toList, size_sec, Nat.add_zero]
      refine row_ext fun j _ => ?_
      by_cases hj : i * 64 ≤ j ∧ j < i * 64 + 64
      · rw [if_pos hj, if_pos hj, getD_sec_list (by omega)]
      · rw [if_neg hj, if_neg hj]
    rw [e, fill_secs N hpl l (i + 1) _ (by omega)]
    refine congrArg some (row_ext fun j _ => ?_)
    simp only [List.length_cons]
    by_cases h1 : (i + 1) * 64 ≤ j ∧ j < (i + 1 + l.length) * 64
    · rw [if_pos h1, if_pos (by omega), show j / 64 - i = (j / 64 - (i + 1)) + 1 by omega]; rfl
    · rw [if_neg h1]
      by_cases h2 : i * 64 ≤ j ∧ j < i * 64 + 64
      · rw [if_pos h2, if_pos (by omega), show j / 64 - i = 0 by omega, show j - i * 64 = j % 64 by omega]; rfl
      · rw [if_neg h2, if_neg (by omega)]
theorem range_row {n : Nat} {f : Nat → Value} : (Array.range n).map f = row n f := by
  apply Array.ext_getElem?
  intro k
  rw [get_row]
  by_cases h : k < n <;> simp [h]
section
variable {P : Program} {ops : Array Oper} {Q : Exit → Act → World → Prop} {a : Act} {w : World} {rest : List Oper} {dst : Option Tmp} {ty : TypeId} {pos : String} {after : Array Edge}
/-- A literal of n sectors: a block of its own. -/
theorem run_lit {T e : TypeId} {n : Nat} {parts : Array (Nat × Value)} {ie : TypeInfo} {z : Value} (l : List (Nat → Nat)) (hl : l.length = n) (h0 : 0 < n) (h1 : n ≤ 1000) (hp : parts.toList = partsFrom 0 l)
    (hu : P.underlying T = some (.slice e)) (hie : P.info? e = some ie) (hz : ie.zero = some z) (hs : ie.size = 64) (w : World) :
    (Instr.buildSlice T n parts).run P w = .ok (.slice (some ⟨w.heap.size, 0, none⟩) n n) (w.alloc (.cells (secs n fun i => l.getD i fun _ => 0) e)) := by
  refine run_buildSlice w T e n parts _ ie z hu hie hz (by rw [hs]; omega) (by rw [hs]; omega) ?_
  rw [hs, hp, range_row, fill_secs n (fun _ _ => rfl) l 0 _ (by omega)]
  refine congrArg some (row_ext fun j hj => ?_)
  rw [if_pos (by omega), Nat.sub_zero]
end
end Go.Proofs.YtdfoehcdabmagaaDoor
set_option maxRecDepth 100000
namespace Go.Proofs.YtdfoehcdabmagaaDoor
open Go.ChangeShapes Go.WideShapes Go.ChangeAt Go.RowKit
theorem fold_ar {off m N : Nat} {f g : Nat → Nat} : (ar m f).zipIdx.foldl (fun cs (c, j) => cs.setIfInBounds (off + j) c) (ar N g) = ar N (putA off m g f) := by
  rw [← Array.foldl_toList, Array.toList_zipIdx]
  refine (fold_row off N (ar m f).toList 0 _).trans ?_
  simp only [Array.length_toList, size_ar, Nat.add_zero]
  refine row_ext fun j _ => ?_
  unfold putA
  by_cases hj : off ≤ j ∧ j < off + m
  · rw [if_pos hj, if_pos hj, ar_getD (by omega)]
  · rw [if_neg hj, if_neg hj]
theorem fill_cons' {place : Nat → Option (Nat × Nat)} {cells : Array Value} {i off size : Nat} {v : Value} {rest : List (Nat × Value)} (h : place i = some (off, size)) (h1 : v.cells.size = size) (h2 : off + size ≤ cells.size) :
    Instr.fill place cells ((i, v) :: rest) = Instr.fill place (v.cells.zipIdx.foldl (fun cs (c, j) => cs.setIfInBounds (off + j) c) cells) rest := by
  subst h1
  rw [Instr.fill]
  simp only [h]
  rw [if_neg]
  simp
  omega
theorem fill_ar {place : Nat → Option (Nat × Nat)} {N i off m : Nat} {f g : Nat → Nat} {rest : List (Nat × Value)} (h : place i = some (off, m)) (h2 : off + m ≤ N) :
    Instr.fill place (ar N g) ((i, .agg (ar m f)) :: rest) = Instr.fill place (ar N (putA off m g f)) rest := by
  exact (fill_cons' (v := .agg (ar m f)) h size_ar (by rw [size_ar]; exact h2)).trans (congrArg (fun c => Instr.fill place c rest) fold_ar)
/-- Three fields of 32 bytes each. -/
def trip (f g h : Nat → Nat) (j : Nat) : Nat := if j < 32 then f j else if j < 64 then g (j - 32) else h (j - 64)
theorem built_trip {T : TypeId} {fs : Array Field} (hz : (Tryd.prog.info? T).bind (·.zero) = some (.agg (ar 96 fun _ => 0))) (hf : Tryd.prog.underlying T = some (.struct fs)) (hp : fs.toList.mapM (fun f => (Tryd.prog.info? f.type).map fun i => (f.offset, i.size)) = some [(0, 32), (32, 32), (64, 32)])
    (f g h : Nat → Nat) : Tryd.prog.built T [(0, .agg (ar 32 f)), (1, .agg (ar 32 g)), (2, .agg (ar 32 h))] = some (ar 96 (trip f g h)) := by
  have h1 : ∃ i, Tryd.prog.info? T = some i ∧ i.zero = some (.agg (ar 96 fun _ => 0)) := by
    cases h : Tryd.prog.info? T with
    | none => rw [h] at hz; cases hz
    | some i => rw [h] at hz; exact ⟨i, rfl, hz⟩
  obtain ⟨i, hi, hz⟩ := h1
  unfold Program.built
  rw [hi, hf]
  simp only [hz, hp, Value.cells]
  rw [fill_ar (off := 0) (m := 32) rfl (by omega), fill_ar (off := 32) (m := 32) rfl (by omega), fill_ar (off := 64) (m := 32) rfl (by omega)]
  show some _ = some _
  refine congrArg some (ar_ext fun j hj => ?_)
  unfold putA trip
  by_cases h1 : j < 32
  · rw [if_neg (by omega), if_neg (by omega), if_pos (by omega), if_pos h1, Nat.sub_zero]
  · by_cases h2 : j < 64
    · rw [if_neg (by omega), if_pos (by omega), if_neg h1, if_pos h2]
    · rw [if_pos (by omega), if_neg h1, if_neg h2]
/-- Two fields of 32 bytes each. -/
def duo (f g : Nat → Nat) (j : Nat) : Nat := if j < 32 then f j else g (j - 32)
theorem built_duo {T : TypeId} {fs : Array Field} (hz : (Tryd.prog.info? T).bind (·.zero) = some (.agg (ar 64 fun _ => 0))) (hf : Tryd.prog.underlying T = some (.struct fs)) (hp : fs.toList.mapM (fun f => (Tryd.prog.info? f.type).map fun i => (f.offset, i.size)) = some [(0, 32), (32, 32)])
    (f g : Nat → Nat) : Tryd.prog.built T [(0, .agg (ar 32 f)), (1, .agg (ar 32 g))] = some (ar 64 (duo f g)) := by
  have h1 : ∃ i, Tryd.prog.info? T = some i ∧ i.zero = some (.agg (ar 64 fun _ => 0)) := by
    cases h : Tryd.prog.info? T with
    | none => rw [h] at hz; cases hz
    | some i => rw [h] at hz; exact ⟨i, rfl, hz⟩
  obtain ⟨i, hi, hz⟩ := h1
  unfold Program.built
  rw [hi, hf]
  simp only [hz, hp, Value.cells]
  rw [fill_ar (off := 0) (m := 32) rfl (by omega), fill_ar (off := 32) (m := 32) rfl (by omega)]
  show some _ = some _
  refine congrArg some (ar_ext fun j hj => ?_)
  unfold putA duo
  by_cases h1 : j < 32
  · rw [if_neg (by omega), if_pos (by omega), if_pos h1, Nat.sub_zero]
  · rw [if_pos (by omega), if_neg h1]
theorem duo0 {f g : Nat → Nat} : ∀ i, i < 32 → duo f g (0 + i) = f i := fun i hi => by unfold duo; rw [if_pos (by omega), Nat.zero_add]
theorem duo1 {f g : Nat → Nat} : ∀ i, i < 32 → duo f g (32 + i) = g i := fun i hi => by unfold duo; rw [if_neg (by omega), show 32 + i - 32 = i by omega]
end Go.Proofs.YtdfoehcdabmagaaDoor
set_option maxRecDepth 100000
namespace Go.Proofs.YtdfoehcdabmagaaDoor
open Go.RowKit
section
variable {P : Program} {ops : Array Oper}
def updV (vs : Nat → Value) (i : Nat) (v : Value) : Nat → Value := fun j => if j = i then v else vs j
theorem updV_self (vs : Nat → Value) (i : Nat) (v : Value) : updV vs i v i = v := if_pos rfl
theorem updV_ne (vs : Nat → Value) {i j : Nat} (v : Value) (h : j ≠ i) : updV vs i v j = vs j := if_neg h
/-- The operations in the order of the text, the k-th first. -/
def wpR (P : Program) (ops : Array Oper) (S : Nat → Value → Prop) (D : Nat → (Nat → Value) → World → Prop) (K : Nat → (Nat → Value) → World → World → Prop) (C : World → Prop) (Q : (Nat → Value) → Act → Prop) : Nat → (Nat → Value) → List Oper → Act → Prop
  | _, vs, [], a => Q vs a
  | k, vs, o :: rest, a => ((Region.wanted o (yielded ops a.tmps) = true ∧ ∀ w, C w → (∀ j, Region.waitsFor .any ops k j = true → D j vs w) →
      ∃ v, S k v ∧ Gives P o a w v fun w' => C w' ∧ K k vs w w' ∧ D k (updV vs k v) w') ∨
      (Region.wanted o (yielded ops a.tmps) = false ∧ S k undef ∧ ∀ w, D k (updV vs k undef) w)) ∧ (S k (vs k) → wpR P ops S D K C Q (k + 1) vs rest (a.put o.dst (vs k)))
theorem wpR_at {S : Nat → Value → Prop} {D : Nat → (Nat → Value) → World → Prop} {K : Nat → (Nat → Value) → World → World → Prop} {C : World → Prop} {Qk : (Nat → Value) → Act → Prop} {vs : Nat → Value} (hS : ∀ j, S j (vs j)) : ∀ (l : List Oper) (k : Nat) (a : Act), wpR P ops S D K C Qk k vs l a →
    Qk vs (lexF l (fun i => vs (k + i)) l.length a) ∧ ∀ i o, l[i]? = some o →
      ((Region.wanted o (yielded ops (lexF l (fun i => vs (k + i)) i a).tmps) = true ∧ ∀ w, C w → (∀ j, Region.waitsFor .any ops (k + i) j = true → D j vs w) →
        ∃ v, S (k + i) v ∧ Gives P o (lexF l (fun i => vs (k + i)) i a) w v fun w' => C w' ∧ K (k + i) vs w w' ∧ D (k + i) (updV vs (k + i) v) w') ∨
      (Region.wanted o (yielded ops (lexF l (fun i => vs (k + i)) i a).tmps) = false ∧ S (k + i) undef ∧ ∀ w, D (k + i) (updV vs (k + i) undef) w))
  | [], k, a, h => ⟨h, fun i o hi => by simp at hi⟩
  | o :: l, k, a, h => by
    obtain ⟨h1, h2⟩ := h
    obtain ⟨hq, hs⟩ := wpR_at hS l (k + 1) _ (h2 (hS k))
    have e : (fun i => vs (k + 1 + i)) = fun i => vs (k + (i + 1)) := funext fun i => by rw [show k + 1 + i = k + (i + 1) by omega]
    rw [e] at hq hs
    refine ⟨?_, fun i o' hi => ?_⟩
    · rw [List.length_cons, lexF_cons]; exact hq
    · cases i with
      | zero =>
        simp only [List.getElem?_cons_zero, Option.some.injEq] at hi
        subst hi
        exact h1
      | succ i =>
        rw [lexF_cons, show k + (i + 1) = k + 1 + i by omega]
        exact hs i o' (by simpa using hi)
theorem waits_ready {L : Array Bool} {i j : Nat} (hr : i ∈ Region.ready .any ops L) (hw : Region.waitsFor .any ops i j = true) : L.getD j false = true := by
  obtain ⟨hun, o, ho, hall⟩ := mem_ready.1 hr
  obtain ⟨o2, ho2, e2, he2, hb2, hon⟩ := Region.waitsFor_spec hw
  obtain rfl : o = o2 := Option.some.inj (ho.symm.trans ho2)
  have h1 := hall e2 he2 hb2
  rw [hon] at h1
  exact h1
theorem waits_closed {L : Array Bool} {i j : Nat} (hc : Closed ops L) (hl : L.getD i false = true) (hw : Region.waitsFor .any ops i j = true) : L.getD j false = true := by
  obtain ⟨o2, ho2, e2, he2, hb2, hon⟩ := Region.waitsFor_spec hw
  have := hc i o2 ho2 hl e2 he2 hb2
  rw [hon] at this
  exact this
theorem wp_region_rel {id : Nat} {Q : Exit → Act → World → Prop} {C : World → Prop} {S : Nat → Value → Prop} {D : Nat → (Nat → Value) → World → Prop} {K : Nat → (Nat → Value) → World → World → Prop} {a : Act} {w : World} {l : List Oper} (n : Nat)
    (hm : P.follows .mixedOrders = true) (ht : tidy l.toArray = true) (hB : tailB l.toArray n = true)
    (v0 : Nat → Value) (h0 : ∀ j, S j (v0 j)) (hD : ∀ i j vs w w', i < n → j ≠ i → D j vs w → K i vs w w' → D j vs w')
    (hL : ∀ j i vs v w, j ≠ i → Region.waitsFor .any l.toArray j i = false → D j vs w → D j (updV vs i v) w)
    (hC : C w.drew)
    (h : ∀ vs : Nat → Value, wpR P l.toArray S D K C (fun vs a' => ∀ w', C w' → (∀ k, k < n → D k vs w') → wpList P l.toArray Q (l.drop n) a' w') 0 vs (l.take n) a) : (Code.region id l.toArray true).wp P Q a w := by
  refine region_core (Γ := {vs : Nat → Value // ∀ j, S j (vs j)}) (C := fun γ L w' => C w' ∧ Closed l.toArray L ∧ ∀ k, k < n → L.getD k false = true → D k γ.1 w') n hm ht hB ⟨v0, h0⟩
    ⟨hC, (fun j o _ hl => by rw [getD_replicate_false] at hl; cases hl), fun k _ hk => by rw [getD_replicate_false] at hk; cases hk⟩ (fun γ => γ.1) ?_ ?_
  · intro i o hi γ L w' hsz hr ⟨hC', hcl, hDs⟩
    have hin : i < n := by
      have := (List.getElem?_eq_some_iff.1 hi).1
      rw [List.length_take] at this; omega
    have hun := getD_both (mem_ready.1 hr).1
    have hcl2 := closed_set hcl hr
    have key := (wpR_at γ.2 (l.take n) 0 a (h γ.1)).2 i o hi
    simp only [Nat.zero_add] at key
    have hwait : ∀ j, Region.waitsFor .any l.toArray i j = true → D j γ.1 w' := fun j hj => by
      have h1 := waits_ready hr hj
      have hji : j < i := by
        obtain ⟨o2, ho2, e2, he2, hb2, hon⟩ := Region.waitsFor_spec hj
        have := tidy_edge ht ho2 e2 he2 hb2
        omega
      exact hDs j (by omega) h1
    have step : ∀ (v : Value) (w2 : World), C w2 → (w2 = w' ∨ K i γ.1 w' w2) → D i (updV γ.1 i v) w2 →
        C w2 ∧ Closed l.toArray (L.setIfInBounds i true) ∧ ∀ k, k < n → (L.setIfInBounds i true).getD k false = true → D k (updV γ.1 i v) w2 := fun v w2 hc hb hd => by
      refine ⟨hc, hcl2, fun k hk hL' => ?_⟩
      by_cases e : k = i
      · subst e; exact hd
      · rw [getD_set_ne false (Ne.symm e)] at hL'
        have hw : Region.waitsFor .any l.toArray k i = false := by
          cases hx : Region.waitsFor .any l.toArray k i with
          | false => rfl
          | true =>
            have := waits_closed hcl hL' hx
            rw [hun] at this
            cases this
        refine hL k i _ v _ e hw ?_
        rcases hb with rfl | hb
        · exact hDs k hk hL'
        · exact hD i k _ _ _ hin e (hDs k hk hL') hb
    have upd : ∀ v, S i v → ∀ j, S j (updV γ.1 i v j) := fun v hv j => by
      by_cases e : j = i
      · subst e; rw [updV_self]; exact hv
      · rw [updV_ne _ _ e]; exact γ.2 j
    have keep : ∀ v j, L.getD j false = true → γ.1 j = updV γ.1 i v j := fun v j hj => by
      have : j ≠ i := fun e => by subst e; rw [hun] at hj; cases hj
      rw [updV_ne _ _ this]
    rcases key with ⟨k1, k2⟩ | ⟨k1, k2, k3⟩
    · obtain ⟨v, hv, hg⟩ := k2 w' hC' hwait
      refine ⟨⟨updV γ.1 i v, upd v hv⟩, keep v, .inl ⟨k1, ?_⟩⟩
      simp only [updV_self]
      exact gives_mono hg fun w2 ⟨h1, h2, h3⟩ => step v w2 h1 (.inr h2) h3
    · exact ⟨⟨updV γ.1 i undef, upd undef k2⟩, keep undef, .inr ⟨k1, updV_self _ _ _, step undef w' hC' (.inl rfl) (k3 w')⟩⟩
  · intro γ L w' hall ⟨hC', _, hDs⟩
    have key := (wpR_at γ.2 (l.take n) 0 a (h γ.1)).1
    have ez : (fun i => γ.1 (0 + i)) = γ.1 := funext fun i => by rw [Nat.zero_add]
    rw [ez] at key
    exact key w' hC' fun k hk => hDs k hk (hall k hk)
end
end Go.Proofs.YtdfoehcdabmagaaDoor
set_option maxRecDepth 100000
namespace Go.Proofs.YtdfoehcdabmagaaDoor
open Go.ChangeShapes Go.WideShapes Go.ChangeAt Go.RowKit
section
variable {a : Act} {w : World} {dst : Option Tmp} {ty : TypeId} {pos : String} {after : Array Edge} {gd : Option (Nat × Bool)} {s x : Operand} {m c B B' : Nat} {v : Value} {l kk : List Nat} {S e : TypeId} {k : IntKind} {ad : Addr}
/-- The slice ahead still holds its numbers, whether the append went into its row or into a new one. -/
theorem run_appN_old (E : Elt S e k) (hown : Own e k w B v l) (hrd : Nums k w B' (some ad) kk) (hk : kk.length = m) (hsz : l.length + m ≤ 1000000) {v' : Value} {w' : World}
    (hr : (Builtin.append_ #[S, S] ty #[v, .slice (some ad) m c]).run Tryd.prog w = .ok v' w') (hown' : Own e k w' B v' (l ++ kk)) : Own e k w' B v l := by
  obtain ⟨i, hi, hz, h1, h2⟩ := E.inf
  have hbytes : (l.length + m) * i.bytes ≤ 140737488355328 := Nat.le_trans (Nat.mul_le_mul hsz h2) (by omega)
  have hl1 : (nums k kk).length = m * i.size := by rw [nums_length, h1, Nat.mul_one, hk]
  rcases hown.2 with ⟨rfl, h0⟩ | ⟨g, cap, cur, rfl, hB, hg, hnc, hcm, hcs, ht⟩
  · rw [List.eq_nil_of_length_eq_zero h0]
    exact Own.nil
  · rw [Nat.mul_one] at hcs ht
    by_cases hroom : l.length + m ≤ cap
    · have hrun := run_append_room (P := Tryd.prog) w S ty e i E.und hi g l.length cap cur hg ad m c (nums k kk) hl1 (nums_reads hrd hk) (nums_oneCell kk) hroom (by rw [h1, Nat.mul_one, nums_length, hcs]; omega)
      rw [hrun] at hr
      cases hr
      rcases hown'.2 with ⟨e', _⟩ | ⟨g2, cap2, cur2, hv2, hB2, hg2, hnc2, hcm2, hcs2, ht2⟩
      · cases e'
      · simp only [Value.slice.injEq, Option.some.injEq, Addr.mk.injEq, and_true] at hv2
        obtain ⟨rfl, _, rfl⟩ := hv2
        refine ⟨hown.1, .inr ⟨_, _, cur2, rfl, hB, hg2, hnc, hcm, hcs2, ?_⟩⟩
        rw [Nat.mul_one] at ht2 ⊢
        have h3 : (cur2.toList.take (l ++ kk).length).take l.length = (nums k (l ++ kk)).take l.length := by rw [ht2]
        rw [List.take_take, Nat.min_eq_left (by rw [List.length_append]; omega), nums_append, List.take_left' (nums_length k l)] at h3
        exact h3
    · have holds : ∀ j u, (nums k l)[j]? = some u → w.cell? ((⟨g, 0, none⟩ : Addr).add j) = some u := hown.cells (g := g) rfl
      have hrun := run_append_grow (P := Tryd.prog) w S ty e i (.int k 0) E.und hi hz ⟨g, 0, none⟩ l.length cap (nums k l) (by rw [nums_length, h1, Nat.mul_one]) holds ad m c (nums k kk) hl1 (nums_reads hrd hk) (by omega) (by omega) (growslice_fits (by omega) hbytes)
      rw [hrun] at hr
      cases hr
      exact hown.alloc _
/-- An append, in a region that draws its order. -/
theorem gives_app {A : Option Addr} (E : Elt S e k) (hs : a.eval s = v) (hx : a.eval x = .slice A m c) (h0 : A = none → m = 0 ∧ c = 0) (hown : Own e k w B v l) (hrd : Nums k w B' A kk) (hk : kk.length = m) (hsz : l.length + m ≤ 1000000) (hB : B ≤ w.heap.size) :
    ∃ v' w', Own e k w' B v' (l ++ kk) ∧ Own e k w' B v l ∧ w.grownBy w' v.ownBlock ∧ (v'.ownBlock = v.ownBlock ∨ v'.ownBlock = some w.heap.size) ∧
      ∀ R : World → Prop, R w' → Gives Tryd.prog ⟨dst, .call { callee := .builtin .append, args := #[s, x], argTypes := #[S, S] }, ty, pos, after, gd⟩ a w v' R := by
  cases A with
  | some ad =>
    obtain ⟨v', w', hr, h1, h2⟩ := run_appN (ty := ty) (c := c) E hown hrd hk hsz hB
    refine ⟨v', w', h1, run_appN_old E hown hrd hk hsz hr h1, h2, run_appN_where E hown hrd hk hsz hr, fun R hR => gives_value ?_ hR⟩
    unfold execOp
    simp only [resolve, invoke, builtin, Sem.run_bind, Sem.run_pure, Result.andThen_ok, List.map_toArray, List.map_cons, List.map_nil, hs, hx, hr]
  | none =>
    obtain ⟨rfl, rfl⟩ := h0 rfl
    obtain rfl := List.eq_nil_of_length_eq_zero hk
    refine ⟨v, w, by rw [List.append_nil]; exact hown, hown, ⟨rfl, rfl, rfl, Nat.le_refl _, fun _ _ _ => rfl⟩, .inl rfl, fun R hR => gives_value ?_ hR⟩
    have hr : (Builtin.append_ #[S, S] ty #[v, .slice none 0 0]).run Tryd.prog w = .ok v w := by
      obtain ⟨i, hi, hz, h1, h2⟩ := E.inf
      exact run_append_owned_none (P := Tryd.prog) w B S ty e i 1 E.und hi v l.length _ hown
    unfold execOp
    simp only [resolve, invoke, builtin, Sem.run_bind, Sem.run_pure, Result.andThen_ok, List.map_toArray, List.map_cons, List.map_nil, hs, hx, hr]
theorem gives_appS {A : Option Addr} {T : Value → Prop} {R : Value → World → Prop} (E : Elt S e k) (hs : a.eval s = v) (hx : a.eval x = .slice A m c) (h0 : A = none → m = 0 ∧ c = 0) (hown : Own e k w B v l) (hrd : Nums k w B' A kk) (hk : kk.length = m) (hsz : l.length + m ≤ 1000000) (hB : B ≤ w.heap.size)
    (h : ∀ v' w', Own e k w' B v' (l ++ kk) → Own e k w' B v l → w.grownBy w' v.ownBlock → T v' ∧ R v' w') :
    ∃ v', T v' ∧ Gives Tryd.prog ⟨dst, .call { callee := .builtin .append, args := #[s, x], argTypes := #[S, S] }, ty, pos, after, gd⟩ a w v' (R v') := by
  obtain ⟨v', w', h1, h2, h3, _, h5⟩ := gives_app (dst := dst) (ty := ty) (pos := pos) (after := after) (gd := gd) E hs hx h0 hown hrd hk hsz hB
  obtain ⟨h6, h7⟩ := h v' w' h1 h2 h3
  exact ⟨v', h6, h5 _ h7⟩
end
end Go.Proofs.YtdfoehcdabmagaaDoor
set_option maxRecDepth 100000
namespace Go.Proofs.YtdfoehcdabmagaaDoor
open Go.ChangeShapes Go.WideShapes Go.ChangeAt Go.RowKit
/-- An append to a slice leaves any other slice of the call's own that is no longer as it was, even in the same row. -/
theorem Own.beside {e : TypeId} {k : IntKind} {w w' : World} {B B2 : Nat} {v u : Value} {l m : List Nat} (h : Own e k w B v l) (hu : Own e k w B2 u m) (hg : w.grownBy w' u.ownBlock) (hu' : Own e k w' B2 u m) (hlm : l.length ≤ m.length) : Own e k w' B v l := by
  by_cases hne : Apart v u
  · exact h.keep hg hne
  · rcases h.2 with ⟨rfl, h0⟩ | ⟨g, cap, cur, rfl, hB, hgc, hnc, hcm, hcs, ht⟩
    · rw [List.eq_nil_of_length_eq_zero h0]
      exact Own.nil
    · rcases hu.2 with ⟨rfl, _⟩ | ⟨g2, cap2, cur2, rfl, hB2, hgc2, hnc2, hcm2, hcs2, ht2⟩
      · exact absurd (Apart.nil _) hne
      · have hgg : g2 = g := by
          by_cases e' : g2 = g
          · exact e'
          · exact absurd (fun x hx hx2 => e' (by
              have h1 : g = x := Option.some.inj hx
              have h2 : g2 = x := Option.some.inj hx2
              rw [h1, h2])) hne
        subst hgg
        rw [hgc] at hgc2
        cases hgc2
        rcases hu'.2 with ⟨e', _⟩ | ⟨g3, cap3, cur3, hv3, hB3, hgc3, hnc3, hcm3, hcs3, ht3⟩
        · cases e'
        · simp only [Value.slice.injEq, Option.some.injEq, Addr.mk.injEq, and_true] at hv3
          obtain ⟨rfl, _, rfl⟩ := hv3
          have hcap : cap2 = cap := by omega
          subst hcap
          refine ⟨h.1, .inr ⟨_, _, cur3, rfl, hB, hgc3, hnc, hcm, hcs3, ?_⟩⟩
          rw [Nat.mul_one] at ht ht2 ht3 ⊢
          have h3 : (cur3.toList.take m.length).take l.length = (cur.toList.take m.length).take l.length := by rw [ht3, ht2]
          rw [List.take_take, List.take_take, Nat.min_eq_left hlm, ht] at h3
          exact h3
section
variable {P : Program} {ops : Array Oper}
theorem wp_region_rel2 {id : Nat} {Q : Exit → Act → World → Prop} {C : World → Prop} {S : Nat → Value → Prop} {D : Nat → (Nat → Value) → World → Prop} {K : Nat → (Nat → Value) → World → World → Prop} {a : Act} {w : World} {l : List Oper} (n : Nat)
    (hm : P.follows .mixedOrders = true) (ht : tidy l.toArray = true) (hB : tailB l.toArray n = true)
    (v0 : Nat → Value) (h0 : ∀ j, S j (v0 j)) (hD : ∀ i j vs w w', i < n → j ≠ i → Region.waitsFor .any l.toArray j i = false → D j vs w → K i vs w w' → D j vs w')
    (hL : ∀ j i vs v w, j ≠ i → Region.waitsFor .any l.toArray j i = false → D j vs w → D j (updV vs i v) w)
    (hC : C w.drew)
    (h : ∀ vs : Nat → Value, wpR P l.toArray S D K C (fun vs a' => ∀ w', C w' → (∀ k, k < n → D k vs w') → wpList P l.toArray Q (l.drop n) a' w') 0 vs (l.take n) a) : (Code.region id l.toArray true).wp P Q a w := by
  refine region_core (Γ := {vs : Nat → Value // ∀ j, S j (vs j)}) (C := fun γ L w' => C w' ∧ Closed l.toArray L ∧ ∀ k, k < n → L.getD k false = true → D k γ.1 w') n hm ht hB ⟨v0, h0⟩
    ⟨hC, (fun j o _ hl => by rw [getD_replicate_false] at hl; cases hl), fun k _ hk => by rw [getD_replicate_false] at hk; cases hk⟩ (fun γ => γ.1) ?_ ?_
  · intro i o hi γ L w' hsz hr ⟨hC', hcl, hDs⟩
    have hin : i < n := by
      have := (List.getElem?_eq_some_iff.1 hi).1
      rw [List.length_take] at this; omega
    have hun := getD_both (mem_ready.1 hr).1
    have hcl2 := closed_set hcl hr
    have key := (wpR_at γ.2 (l.take n) 0 a (h γ.1)).2 i o hi
    simp only [Nat.zero_add] at key
    have hwait : ∀ j, Region.waitsFor .any l.toArray i j = true → D j γ.1 w' := fun j hj => by
      have h1 := waits_ready hr hj
      have hji : j < i := by
        obtain ⟨o2, ho2, e2, he2, hb2, hon⟩ := Region.waitsFor_spec hj
        have := tidy_edge ht ho2 e2 he2 hb2
        omega
      exact hDs j (by omega) h1
    have step : ∀ (v : Value) (w2 : World), C w2 → (w2 = w' ∨ K i γ.1 w' w2) → D i (updV γ.1 i v) w2 →
        C w2 ∧ Closed l.toArray (L.setIfInBounds i true) ∧ ∀ k, k < n → (L.setIfInBounds i true).getD k false = true → D k (updV γ.1 i v) w2 := fun v w2 hc hb hd => by
      refine ⟨hc, hcl2, fun k hk hL' => ?_⟩
      by_cases e : k = i
      · subst e; exact hd
      · rw [getD_set_ne false (Ne.symm e)] at hL'
        have hw : Region.waitsFor .any l.toArray k i = false := by
          cases hx : Region.waitsFor .any l.toArray k i with
          | false => rfl
          | true =>
            have := waits_closed hcl hL' hx
            rw [hun] at this
            cases this
        refine hL k i _ v _ e hw ?_
        rcases hb with rfl | hb
        · exact hDs k hk hL'
        · exact hD i k _ _ _ hin e hw (hDs k hk hL') hb
    have upd : ∀ v, S i v → ∀ j, S j (updV γ.1 i v j) := fun v hv j => by
      by_cases e : j = i
      · subst e; rw [updV_self]; exact hv
      · rw [updV_ne _ _ e]; exact γ.2 j
    have keep : ∀ v j, L.getD j false = true → γ.1 j = updV γ.1 i v j := fun v j hj => by
      have : j ≠ i := fun e => by subst e; rw [hun] at hj; cases hj
      rw [updV_ne _ _ this]
    rcases key with ⟨k1, k2⟩ | ⟨k1, k2, k3⟩
    · obtain ⟨v, hv, hg⟩ := k2 w' hC' hwait
      refine ⟨⟨updV γ.1 i v, upd v hv⟩, keep v, .inl ⟨k1, ?_⟩⟩
      simp only [updV_self]
      exact gives_mono hg fun w2 ⟨h1, h2, h3⟩ => step v w2 h1 (.inr h2) h3
    · exact ⟨⟨updV γ.1 i undef, upd undef k2⟩, keep undef, .inr ⟨k1, updV_self _ _ _, step undef w' hC' (.inl rfl) (k3 w')⟩⟩
  · intro γ L w' hall ⟨hC', _, hDs⟩
    have key := (wpR_at γ.2 (l.take n) 0 a (h γ.1)).1
    have ez : (fun i => γ.1 (0 + i)) = γ.1 := funext fun i => by rw [Nat.zero_add]
    rw [ez] at key
    exact key w' hC' fun k hk => hDs k hk (hall k hk)
end
end Go.Proofs.YtdfoehcdabmagaaDoor
set_option maxRecDepth 100000
namespace Go.Proofs.YtdfoehcdabmagaaDoor
open Go.RowKit
/-- One operation, carried out in the world w; R holds of what it yields and of the world behind it. -/
def GivesE (P : Program) (o : Oper) (a : Act) (w : World) (R : Value → World → Prop) : Prop :=
  match (execOp a.eval o).run P w with
  | .ok (.value u) w' => R u w'
  | .ok .skip w' => R undef w'
  | .ok (.enter f args) w' => Calls P f args w' fun e w'' => ∃ v, e = .returned v ∧ R v w''
  | _ => False
theorem wp_of_givesE {P : Program} {o : Oper} {a : Act} {w : World} {R : Value → World → Prop} {K : Act → World → Prop} {Q : Exit → Act → World → Prop}
    (h : GivesE P o a w R) (hK : ∀ v w', R v w' → K (a.put o.dst v) w') : o.wp P a w K Q := by
  unfold GivesE at h
  unfold Oper.wp
  generalize (execOp a.eval o).run P w = r at *
  cases r with
  | ok n w' =>
    cases n <;> simp only at h <;> simp only [Oper.upon]
    case value u => exact hK _ _ h
    case skip => exact hK _ _ h
    case enter f args => exact h.mono fun e w'' ⟨v, he, hr⟩ => by subst he; exact hK _ _ hr
  | halt x w' => cases h
theorem givesE_mono {P : Program} {o : Oper} {a : Act} {w : World} {R R' : Value → World → Prop} (h : GivesE P o a w R) (hr : ∀ v w', R v w' → R' v w') : GivesE P o a w R' := by
  unfold GivesE at *
  generalize (execOp a.eval o).run P w = r at *
  cases r with
  | ok n w' =>
    cases n <;> simp only at h ⊢
    case value u => exact hr _ _ h
    case skip => exact hr _ _ h
    case enter f args => exact h.mono fun e w'' ⟨v, he, hR⟩ => ⟨v, he, hr _ _ hR⟩
  | halt x w' => exact h
section
variable {P : Program} {ops : Array Oper}
/-- The head of a region: the first n operations, in whatever order; behind them the tail. -/
theorem head_anyE {Γ : Type} {n g : Nat} {Q : Exit → Act → World → Prop} {vals : Γ → Nat → Value} {C : Γ → Array Bool → World → Prop} {a0 : Act} (ht : tidy ops = true) (hn : n ≤ ops.size)
    (hstep : ∀ k o, k < n → ops[k]? = some o → ∀ γ L w, L.size = ops.size → Closed ops L → k ∈ Region.ready .any ops L → C γ L w →
      ((Region.wanted o (yielded ops (fr ops (vals γ) (fun j => decide (j < k)) ops.size a0).tmps) = true ∧ GivesE P o (fr ops (vals γ) (fun j => decide (j < k)) ops.size a0) w (fun v w' => ∃ γ', (∀ j, L.getD j false = true → vals γ j = vals γ' j) ∧ vals γ' k = v ∧ C γ' (L.setIfInBounds k true) w')) ∨
      (Region.wanted o (yielded ops (fr ops (vals γ) (fun j => decide (j < k)) ops.size a0).tmps) = false ∧ ∃ γ', (∀ j, L.getD j false = true → vals γ j = vals γ' j) ∧ vals γ' k = undef ∧ C γ' (L.setIfInBounds k true) w)))
    (hsink : ∀ L, L.size = ops.size → Closed ops L → (∀ t, n ≤ t → t < ops.size → L.getD t true = false) → ∀ i, i < n → L.getD i true = false → ∀ t ∈ Region.ready .any ops L, t < n)
    (htail : ∀ γ L w, L.size = ops.size → (∀ i, i < n → L.getD i false = true) → (∀ t, n ≤ t → t < ops.size → L.getD t true = false) → C γ L w →
      wpAny P .any ops Q g L (fr ops (vals γ) (fun j => decide (j < n)) ops.size a0) w) :
    ∀ (f : Nat) (γ : Γ) (L : Array Bool) (w : World), L.size = ops.size → Closed ops L → (∀ t, n ≤ t → t < ops.size → L.getD t true = false) → cnt n L = f → C γ L w →
      wpAny P .any ops Q (f + g) L (fr ops (vals γ) (fun j => L.getD j false) ops.size a0) w
  | 0, γ, L, w, hs, hcl, htl, hc, hC => by
    have hall : ∀ i, i < n → L.getD i false = true := fun i hi => by
      have h1 : ∀ j ∈ List.range n, ¬ (!L.getD j true) = true := List.countP_eq_zero.1 hc
      have h2 := h1 i (List.mem_range.2 hi)
      exact getD_up (by omega) (by simpa using h2)
    rw [Nat.zero_add, fr_congr (l' := fun j => decide (j < n)) fun j hj => ?_]
    · exact htail γ L w hs hall htl hC
    · by_cases hjn : j < n
      · rw [hall j hjn]; simp [hjn]
      · rw [getD_both (htl j (by omega) hj)]; simp [hjn]
  | f + 1, γ, L, w, hs, hcl, htl, hc, hC => by
    rw [show f + 1 + g = (f + g) + 1 by omega]
    -- the least that has not come up may come up
    have hex : ∃ i, i < n ∧ L.getD i true = false := by
      have hpos : 0 < (List.range n).countP fun i => !L.getD i true := by unfold cnt at hc; omega
      obtain ⟨i, hi, h1⟩ := List.countP_pos_iff.1 hpos
      exact ⟨i, List.mem_range.1 hi, by simpa using h1⟩
    have hready : ∃ i, i ∈ Region.ready .any ops L := by
      obtain ⟨i, hi, hun⟩ := hex
      induction i using Nat.strongRecOn with
      | _ i ih =>
        by_cases hless : ∃ j, j < i ∧ L.getD j true = false
        · obtain ⟨j, hj, hjun⟩ := hless
          exact ih j hj (by omega) hjun
        · have hio : i < ops.size := by omega
          refine ⟨i, mem_ready.2 ⟨hun, ops[i], Array.getElem?_eq_getElem hio, fun e he hb => ?_⟩⟩
          have hlt := tidy_edge ht (Array.getElem?_eq_getElem hio) e he hb
          refine getD_up (by omega) ?_
          cases h0 : L.getD e.on true with
          | true => rfl
          | false => exact absurd ⟨e.on, hlt, h0⟩ hless
    obtain ⟨i0, hi0, hun0⟩ := hex
    refine ⟨fun h0 => (by obtain ⟨i, hi⟩ := hready; rw [h0] at hi; cases hi), fun i hi => ?_⟩
    have hin : i < n := hsink L hs hcl htl i0 hi0 hun0 i hi
    obtain ⟨hun, o, ho, _⟩ := mem_ready.1 hi
    have hio : i < ops.size := by omega
    obtain ⟨hex1, hex2⟩ := exec_same (vals := vals γ) (n := ops.size) (a := a0) ht ho hcl hi
    have hst := hstep i o hin ho γ L w hs hcl hi hC
    have hnext : ∀ γ' w', (∀ j, L.getD j false = true → vals γ j = vals γ' j) → C γ' (L.setIfInBounds i true) w' → wpAny P .any ops Q (f + g) (L.setIfInBounds i true) ((fr ops (vals γ) (fun j => L.getD j false) ops.size a0).put o.dst (vals γ' i)) w' := fun γ' w' hag hC' => by
      have ih := head_anyE (g := g) (Q := Q) ht hn hstep hsink htail f γ' (L.setIfInBounds i true) w' (by simpa using hs) (closed_set hcl hi) (fun t h1 h2 => by rw [getD_set_ne true (by omega)]; exact htl t h1 h2)
        (by
          have h1 : cnt n (L.setIfInBounds i true) + 1 = cnt n L := by
            refine countP_one (i := i) (by simpa using hun) ?_ (fun j hj => by rw [getD_set_ne true (Ne.symm hj)]) List.nodup_range (List.mem_range.2 hin)
            simp [show i < L.size by omega]
          omega) hC'
      rw [fr_congr (l' := fun j => L.getD j false || j == i) fun j _ => ?_, fr_set ht (getD_both hun) hio, ← fr_vals fun j _ hj => hag j hj] at ih
      · unfold dstAt at ih; rw [ho] at ih; exact ih
      · by_cases e : j = i
        · subst e; simp [show j < L.size by omega]
        · have : (j == i) = false := by simpa using e
          rw [getD_set_ne false (Ne.symm e), this, Bool.or_false]
    unfold wpOp
    simp only [ho]
    rcases hst with ⟨hw, hg⟩ | ⟨hw, γ', hag, hv, hC'⟩
    · rw [hex2, if_pos hw]
      refine .inl (wp_of_givesE (R := fun v w' => ∃ γ', (∀ j, L.getD j false = true → vals γ j = vals γ' j) ∧ vals γ' i = v ∧ C γ' (L.setIfInBounds i true) w') ?_ fun v w' ⟨γ', hag, hv, hC'⟩ => by rw [← hv]; exact hnext γ' w' hag hC')
      unfold GivesE at hg ⊢
      rw [hex1]; exact hg
    · rw [hex2, hw, if_neg (by simp)]
      rw [← hv]
      exact hnext γ' w hag hC'

theorem region_coreE {id : Nat} {Q : Exit → Act → World → Prop} {Γ : Type} {C : Γ → Array Bool → World → Prop} {a : Act} {w : World} {l : List Oper} (n : Nat) (hm : P.follows .mixedOrders = true) (ht : tidy l.toArray = true) (hB : tailB l.toArray n = true)
    (γ0 : Γ) (hC : C γ0 (Array.replicate l.length false) w.drew) (vals : Γ → Nat → Value)
    (hs : ∀ i o, (l.take n)[i]? = some o → ∀ γ L w, L.size = l.length → i ∈ Region.ready .any l.toArray L → C γ L w →
      ((Region.wanted o (yielded l.toArray (lexF (l.take n) (vals γ) i a).tmps) = true ∧ GivesE P o (lexF (l.take n) (vals γ) i a) w (fun v w' => ∃ γ', (∀ j, L.getD j false = true → vals γ j = vals γ' j) ∧ vals γ' i = v ∧ C γ' (L.setIfInBounds i true) w')) ∨
      (Region.wanted o (yielded l.toArray (lexF (l.take n) (vals γ) i a).tmps) = false ∧ ∃ γ', (∀ j, L.getD j false = true → vals γ j = vals γ' j) ∧ vals γ' i = undef ∧ C γ' (L.setIfInBounds i true) w)))
    (hq : ∀ γ L w', (∀ i, i < n → L.getD i false = true) → C γ L w' → wpList P l.toArray Q (l.drop n) (lexF (l.take n) (vals γ) (l.take n).length a) w') : (Code.region id l.toArray true).wp P Q a w := by
  refine wp_region_any hm ?_
  have hn : n ≤ l.toArray.size := by
    simp only [tailB, Bool.or_eq_true, Bool.and_eq_true, decide_eq_true_eq] at hB
    rcases hB with h | h <;> omega
  have hlen : (l.take n).length = n := by rw [List.length_take]; simp at hn; omega
  simp only [hlen] at hq
  have hfr : ∀ (γ : Γ) i, i ≤ n → lexF (l.take n) (vals γ) i a = fr l.toArray (vals γ) (fun j => decide (j < i)) l.toArray.size a := fun γ i hi => by
    have := lexF_fr (ops := l.toArray) (vals := vals γ) (a := a) hn i hi
    simpa using this
  have H := head_anyE (P := P) (ops := l.toArray) (n := n) (g := l.toArray.size - n) (Q := Q) (vals := vals) (C := C) (a0 := a) ht hn
    (fun k o hk ho γ L w' hsz _ hr hC' => by
      have hko : (l.take n)[k]? = some o := by rw [List.getElem?_take_of_lt hk]; simpa using ho
      have := hs k o hko γ L w' (by simpa using hsz) hr hC'
      rwa [hfr γ k (by omega)] at this)
    (fun L hL hcl htl i hi hun t hr => by
      obtain ⟨hunt, o, ho, _⟩ := mem_ready.1 hr
      have hto : t < l.toArray.size := (Array.getElem?_eq_some_iff.1 ho).1
      simp only [tailB, Bool.or_eq_true, Bool.and_eq_true, decide_eq_true_eq] at hB
      rcases hB with hB | ⟨⟨⟨hB1, hB2⟩, hB3⟩, _⟩
      · omega
      · rcases Nat.lt_or_ge t n with h | h
        · exact h
        · exact absurd hr (tail_waits hB2 hB3 hB1 ⟨hL, hcl, htl⟩ _ i rfl hi hun t h))
    (fun γ L w' hL hall htl hC' => by
      rw [← hfr γ n (Nat.le_refl n)]
      have hlist := hq γ L w' hall hC'
      have hLe : L = tailL n (l.toArray.size - n) := by
        apply Array.ext_getElem?
        intro j
        unfold tailL
        rw [show ((List.replicate n true ++ List.replicate (l.toArray.size - n) false).toArray)[j]? = (List.replicate n true ++ List.replicate (l.toArray.size - n) false)[j]? from List.getElem?_toArray .., List.getElem?_append]
        simp only [List.length_replicate]
        by_cases hj : j < n
        · have := hall j hj
          rw [if_pos hj]
          simp [show j < L.size by omega] at this
          simp [hj, show j < L.size by omega, this]
        · rw [if_neg hj]
          by_cases hj2 : j < l.toArray.size
          · have := htl j (by omega) hj2
            simp [show j < L.size by omega] at this
            rw [Array.getElem?_eq_getElem (by omega), this, List.getElem?_replicate, if_pos (by omega)]
          · rw [Array.getElem?_eq_none (by omega), List.getElem?_replicate, if_neg (by omega)]
      simp only [tailB, Bool.or_eq_true, Bool.and_eq_true, decide_eq_true_eq] at hB
      rcases hB with hB | ⟨⟨⟨hB1, hB2⟩, hB3⟩, hB4⟩
      · rw [show l.toArray.size - n = 0 by omega]
        have hd : l.drop n = [] := List.drop_eq_nil_of_le (by simp at hB; omega)
        rw [hd] at hlist
        refine ⟨?_, hlist⟩
        apply List.eq_nil_iff_forall_not_mem.2
        intro t hr
        obtain ⟨hunt, o, ho, _⟩ := mem_ready.1 hr
        have hto : t < l.toArray.size := (Array.getElem?_eq_some_iff.1 ho).1
        have := hall t (by omega)
        rw [getD_both hunt] at this
        cases this
      · have hdl : (l.drop n).length = l.toArray.size - n := by simp
        have := wpAny_of_seq (P := P) (ops := l.toArray) (md := .any) (Q' := Q) (l.drop n) n L _ w' (fun j => by simp [List.getElem?_drop]) (by rw [hdl, hLe]; exact hB4) hlist
        rwa [hdl] at this)
    (cnt n (Array.replicate l.toArray.size false)) γ0 (Array.replicate l.toArray.size false) w.drew (by simp) (fun j o _ hl => by rw [getD_replicate_false] at hl; cases hl)
    (fun t _ hts => getD_in (by simpa using hts) (getD_replicate_false _ _)) rfl (by simpa using hC)
  have hc : cnt n (Array.replicate l.toArray.size false) = n := by
    unfold cnt
    have : ∀ i ∈ List.range n, (!(Array.replicate l.toArray.size false).getD i true) = true := fun i hi => by
      have hi' := List.mem_range.1 hi
      have : i < l.length := by simp at hn; omega
      simp [this]
    rw [List.countP_eq_length.2 this, List.length_range]
  rw [hc, show n + (l.toArray.size - n) = l.toArray.size by omega] at H
  have hz : fr l.toArray (vals γ0) (fun j => (Array.replicate l.toArray.size false).getD j false) l.toArray.size a = a := by
    rw [fr_congr (l' := fun j => decide (j < 0)) fun j _ => by rw [getD_replicate_false]; simp]
    have := fr_stop (ops := l.toArray) (vals := vals γ0) (k := 0) l.toArray.size a
    rw [Nat.zero_add] at this
    exact this
  rw [hz] at H
  exact H

/-- The operations in the order of the text, the k-th first. -/
def wpE (P : Program) (ops : Array Oper) (S : Nat → Value → Prop) (D : Nat → (Nat → Value) → World → Prop) (K : Nat → (Nat → Value) → World → World → Prop) (C : (Nat → Bool) → World → Prop) (Q : (Nat → Value) → Act → Prop) : Nat → (Nat → Value) → List Oper → Act → Prop
  | _, vs, [], a => Q vs a
  | k, vs, o :: rest, a => ((Region.wanted o (yielded ops a.tmps) = true ∧ ∀ d w, d k = false → C d w → (∀ j, Region.waitsFor .any ops k j = true → D j vs w) →
      GivesE P o a w fun v w' => S k v ∧ C (upB d k) w' ∧ K k vs w w' ∧ D k (updV vs k v) w') ∨
      (Region.wanted o (yielded ops a.tmps) = false ∧ S k undef ∧ (∀ d w, C d w → C (upB d k) w) ∧ ∀ w, D k (updV vs k undef) w)) ∧ (S k (vs k) → wpE P ops S D K C Q (k + 1) vs rest (a.put o.dst (vs k)))
theorem wpE_at {S : Nat → Value → Prop} {D : Nat → (Nat → Value) → World → Prop} {K : Nat → (Nat → Value) → World → World → Prop} {C : (Nat → Bool) → World → Prop} {Qk : (Nat → Value) → Act → Prop} {vs : Nat → Value} (hS : ∀ j, S j (vs j)) : ∀ (l : List Oper) (k : Nat) (a : Act), wpE P ops S D K C Qk k vs l a →
    Qk vs (lexF l (fun i => vs (k + i)) l.length a) ∧ ∀ i o, l[i]? = some o →
      ((Region.wanted o (yielded ops (lexF l (fun i => vs (k + i)) i a).tmps) = true ∧ ∀ d w, d (k + i) = false → C d w → (∀ j, Region.waitsFor .any ops (k + i) j = true → D j vs w) →
        GivesE P o (lexF l (fun i => vs (k + i)) i a) w fun v w' => S (k + i) v ∧ C (upB d (k + i)) w' ∧ K (k + i) vs w w' ∧ D (k + i) (updV vs (k + i) v) w') ∨
      (Region.wanted o (yielded ops (lexF l (fun i => vs (k + i)) i a).tmps) = false ∧ S (k + i) undef ∧ (∀ d w, C d w → C (upB d (k + i)) w) ∧ ∀ w, D (k + i) (updV vs (k + i) undef) w))
  | [], k, a, h => ⟨h, fun i o hi => by simp at hi⟩
  | o :: l, k, a, h => by
    obtain ⟨h1, h2⟩ := h
    obtain ⟨hq, hs⟩ := wpE_at hS l (k + 1) _ (h2 (hS k))
    have e : (fun i => vs (k + 1 + i)) = fun i => vs (k + (i + 1)) := funext fun i => by rw [show k + 1 + i = k + (i + 1) by omega]
    rw [e] at hq hs
    refine ⟨?_, fun i o' hi => ?_⟩
    · rw [List.length_cons, lexF_cons]; exact hq
    · cases i with
      | zero =>
        simp only [List.getElem?_cons_zero, Option.some.injEq] at hi
        subst hi
        exact h1
      | succ i =>
        rw [lexF_cons, show k + (i + 1) = k + 1 + i by omega]
        exact hs i o' (by simpa using hi)
theorem wp_region_ex {id : Nat} {Q : Exit → Act → World → Prop} {C : (Nat → Bool) → World → Prop} {S : Nat → Value → Prop} {D : Nat → (Nat → Value) → World → Prop} {K : Nat → (Nat → Value) → World → World → Prop} {a : Act} {w : World} {l : List Oper} (n : Nat)
    (hm : P.follows .mixedOrders = true) (ht : tidy l.toArray = true) (hB : tailB l.toArray n = true)
    (v0 : Nat → Value) (h0 : ∀ j, S j (v0 j)) (hD : ∀ i j vs w w', i < n → j ≠ i → Region.waitsFor .any l.toArray j i = false → D j vs w → K i vs w w' → D j vs w')
    (hL : ∀ j i vs v w, j ≠ i → Region.waitsFor .any l.toArray j i = false → D j vs w → D j (updV vs i v) w)
    (hC : C (fun _ => false) w.drew)
    (h : ∀ vs : Nat → Value, wpE P l.toArray S D K C (fun vs a' => ∀ d w', (∀ k, k < n → d k = true) → C d w' → (∀ k, k < n → D k vs w') → wpList P l.toArray Q (l.drop n) a' w') 0 vs (l.take n) a) : (Code.region id l.toArray true).wp P Q a w := by
  refine region_coreE (Γ := {vs : Nat → Value // ∀ j, S j (vs j)}) (C := fun γ L w' => C (fun j => L.getD j false) w' ∧ Closed l.toArray L ∧ ∀ k, k < n → L.getD k false = true → D k γ.1 w') n hm ht hB ⟨v0, h0⟩
    ⟨by rw [show (fun j => (Array.replicate l.length false).getD j false) = fun _ => false from funext fun j => getD_replicate_false _ j]; exact hC, (fun j o _ hl => by rw [getD_replicate_false] at hl; cases hl), fun k _ hk => by rw [getD_replicate_false] at hk; cases hk⟩ (fun γ => γ.1) ?_ ?_
  · intro i o hi γ L w' hsz hr ⟨hC', hcl, hDs⟩
    have hin : i < n := by
      have := (List.getElem?_eq_some_iff.1 hi).1
      rw [List.length_take] at this; omega
    have hun := getD_both (mem_ready.1 hr).1
    have hlt : i < L.size := by
      obtain ⟨o', ho', _⟩ := (mem_ready.1 hr).2
      have := (Array.getElem?_eq_some_iff.1 ho').1
      simp at this; omega
    have hup : (fun j => (L.setIfInBounds i true).getD j false) = upB (fun j => L.getD j false) i := funext fun j => by
      unfold upB
      by_cases e : j = i
      · subst e; rw [if_pos rfl]; simp [hlt]
      · rw [if_neg e, getD_set_ne false (Ne.symm e)]
    have hcl2 := closed_set hcl hr
    have key := (wpE_at γ.2 (l.take n) 0 a (h γ.1)).2 i o hi
    simp only [Nat.zero_add] at key
    have hwait : ∀ j, Region.waitsFor .any l.toArray i j = true → D j γ.1 w' := fun j hj => by
      have h1 := waits_ready hr hj
      have hji : j < i := by
        obtain ⟨o2, ho2, e2, he2, hb2, hon⟩ := Region.waitsFor_spec hj
        have := tidy_edge ht ho2 e2 he2 hb2
        omega
      exact hDs j (by omega) h1
    have step : ∀ (v : Value) (w2 : World), C (upB (fun j => L.getD j false) i) w2 → (w2 = w' ∨ K i γ.1 w' w2) → D i (updV γ.1 i v) w2 →
        C (fun j => (L.setIfInBounds i true).getD j false) w2 ∧ Closed l.toArray (L.setIfInBounds i true) ∧ ∀ k, k < n → (L.setIfInBounds i true).getD k false = true → D k (updV γ.1 i v) w2 := fun v w2 hc hb hd => by
      refine ⟨by rw [hup]; exact hc, hcl2, fun k hk hL' => ?_⟩
      by_cases e : k = i
      · subst e; exact hd
      · rw [getD_set_ne false (Ne.symm e)] at hL'
        have hw : Region.waitsFor .any l.toArray k i = false := by
          cases hx : Region.waitsFor .any l.toArray k i with
          | false => rfl
          | true =>
            have := waits_closed hcl hL' hx
            rw [hun] at this
            cases this
        refine hL k i _ v _ e hw ?_
        rcases hb with rfl | hb
        · exact hDs k hk hL'
        · exact hD i k _ _ _ hin e hw (hDs k hk hL') hb
    have upd : ∀ v, S i v → ∀ j, S j (updV γ.1 i v j) := fun v hv j => by
      by_cases e : j = i
      · subst e; rw [updV_self]; exact hv
      · rw [updV_ne _ _ e]; exact γ.2 j
    have keep : ∀ v j, L.getD j false = true → γ.1 j = updV γ.1 i v j := fun v j hj => by
      have : j ≠ i := fun e => by subst e; rw [hun] at hj; cases hj
      rw [updV_ne _ _ this]
    rcases key with ⟨k1, k2⟩ | ⟨k1, k2, k3, k4⟩
    · refine .inl ⟨k1, givesE_mono (k2 _ w' hun hC' hwait) fun v w2 ⟨h1, h2, h3, h4⟩ => ⟨⟨updV γ.1 i v, upd v h1⟩, keep v, updV_self _ _ _, step v w2 h2 (.inr h3) h4⟩⟩
    · exact .inr ⟨k1, ⟨updV γ.1 i undef, upd undef k2⟩, keep undef, updV_self _ _ _, step undef w' (k3 _ _ hC') (.inl rfl) (k4 w')⟩
  · intro γ L w' hall ⟨hC', _, hDs⟩
    have key := (wpE_at γ.2 (l.take n) 0 a (h γ.1)).1
    have ez : (fun i => γ.1 (0 + i)) = γ.1 := funext fun i => by rw [Nat.zero_add]
    rw [ez] at key
    exact key _ w' hall hC' fun k hk => hDs k hk (hall k hk)
end
end Go.Proofs.YtdfoehcdabmagaaDoor
set_option maxRecDepth 100000
namespace Go.Proofs.YtdfoehcdabmagaaDoor
open Go.ChangeShapes Go.WideShapes Go.ChangeAt Go.RowKit
open DvP (tK tT sub rsub_any)
attribute [local go_sem] Gives GivesE
section
variable {ops : Array Oper} {a : Act} {rest : List Oper} {dst : Option Tmp} {ty r : TypeId} {pos : String} {after : Array Edge} {x y : Operand} {s t : ByteArray} {gd : Option (Nat × Bool)} {C : World → Prop} {Qk : Act → Prop}
theorem bcat (hwt : Region.wanted ⟨dst, .binOp .add 9 x y r, ty, pos, after, gd⟩ (yielded ops a.tmps) = true) (hx : a.eval x = .string s) (hy : a.eval y = .string t) (hs : s.size + t.size ≤ 1000000)
    (h : wpB Tryd.prog ops C Qk rest (a.put dst (.string (s ++ t)))) : wpB Tryd.prog ops C Qk (⟨dst, .binOp .add 9 x y r, ty, pos, after, gd⟩ :: rest) a :=
  wpB_val hwt (fun w hw => gives_value (w' := w) (exec_cat w hx hy hs) ⟨hw, Below.refl _ _⟩) h
end
namespace BxP
def xorF (f g : Nat → Nat) : Nat → Nat := fun i => f i ^^^ g i
theorem xorF_lt {f g : Nat → Nat} (hf : ∀ i, f i < 256) (hg : ∀ i, g i < 256) : ∀ i, xorF f g i < 256 := fun i => Nat.xor_lt_two_pow (n := 8) (hf i) (hg i)
/-- The pad of a box. -/
def pad (k : Nat → Nat) (s : ByteArray) (n : Nat) : Nat → Nat := sub k (lab s wPad n)
theorem sub_lt (k : Nat → Nat) (s : ByteArray) : ∀ i, sub k s i < 256 := fun i => HmM.tag_256 _ _ i
set_option maxHeartbeats 800000 in
theorem rmasked_any (k x : Nat → Nat) (hk : ∀ i, k i < 256) (hx : ∀ i, x i < 256) (s : ByteArray) (hs : s.size ≤ 100) (n : Nat) (hn : n < 18446744073709551616) (w : World) :
    Calls Tryd.prog 24 #[.agg (ar 32 k), .string s, .int .u64 n, .agg (ar 32 x)] w fun e w' => e = .returned (.agg (ar 32 (xorF x (pad k s n)))) ∧ Below w.heap.size w w' := by
  have HK := hid hk
  have HX := hid hx
  have HN := hid hn
  have hls := hid (lab_size hs (show wPad.size ≤ 6 by decide) hn)
  have hsz := hid hs
  clear hk hx hn
  go_enter Tryd.func24, Tryd.ntmps24
  go_upto_region 1 with (with_reducible apply alA tK)
  generalize hw1 : World.alloc (World.alloc (World.alloc w _) _) _ = w1
  have b0 := hid (show Blk w1 w.heap.size 23 (ar 32 k) by rw [← hw1]; exact ((Blk.new _ _ _).alloc _).alloc _)
  have b1 := hid (show Blk w1 (w.heap.size + 1) 23 (ar 32 x) by rw [← hw1]; exact (Blk.top rfl (by simp)).alloc _)
  have b2 := hid (show Blk w1 (w.heap.size + 1 + 1) 23 (ar 32 fun _ => 0) by rw [← hw1]; exact Blk.top rfl (by simp))
  have hb := hid (show Below w.heap.size w w1 by rw [← hw1]; exact (((Below.refl _ _).alloc (Nat.le_refl _) _).alloc (by simp) _).alloc (by simp; omega) _)
  clear hw1
  have hl1 := b2.out.lt
  refine wp_region_new1 (C := fun w' => Below w1.heap.size w1 w') 7 23 (ar 32 fun _ => 0) 9 rfl (by kernel_rfl) (by kernel_rfl) (by kernel_rfl) (run_alloc_ar tK) (Below.refl _ _).drew (fun w' hw' => hw'.alloc hw'.size _) (fun w' hw' => hw'.size) ?_
  simp only [List.take_succ_cons, List.take_zero, List.drop_succ_cons, List.drop_zero]
  apply bldA tK
  · rfl
  · rfl
  · exact fun w' hw' => (b0.out.below hw' b0.out.lt).head
  simp only [Act.put, List.setIfInBounds_toArray, List.set_cons_succ, List.set_cons_zero]
  apply wpB_val
  · rfl
  · intro w' hw'
    have hbl := Below.refl w'.heap.size w'
    go_simp
    first | exact rfl | exact ⟨rfl, hbl⟩ | exact ⟨rfl, hw', hbl⟩
  simp only [Act.put, List.setIfInBounds_toArray, List.set_cons_succ, List.set_cons_zero]
  apply bcat (s := s) (t := wPad)
  · rfl
  · rfl
  · rfl
  · have := hsz.out; show s.size + 5 ≤ 1000000; omega
  simp only [Act.put, List.setIfInBounds_toArray, List.set_cons_succ, List.set_cons_zero]
  apply wpB_val
  · rfl
  · intro w' hw'
    have hbl := Below.refl w'.heap.size w'
    go_simp
    first | exact rfl | exact ⟨rfl, hbl⟩ | exact ⟨rfl, hw', hbl⟩
  simp only [Act.put, List.setIfInBounds_toArray, List.set_cons_succ, List.set_cons_zero]
  apply wpB_val
  · rfl
  · intro w' hw'
    go_simp
    exact (rdigits_any n HN.out w').mono fun e w2 h => ⟨h.1, hw'.trans (h.2.mono hw'.size), h.2⟩
  simp only [Act.put, List.setIfInBounds_toArray, List.set_cons_succ, List.set_cons_zero]
  apply bcat (s := s ++ wPad) (t := str (dec n))
  · rfl
  · rfl
  · rfl
  · rw [ByteArray.size_append, str_size]; have := hsz.out; have := dec_20 HN.out; show s.size + 5 + _ ≤ 1000000; omega
  simp only [Act.put, List.setIfInBounds_toArray, List.set_cons_succ, List.set_cons_zero]
  apply wpB_val
  · rfl
  · intro w' hw'
    go_simp
    exact (rsub_any k HK.out (lab s wPad n) (by have := hls.out; omega) w').mono fun e w2 h => ⟨h.1, hw'.trans (h.2.mono hw'.size), h.2⟩
  simp only [Act.put, List.setIfInBounds_toArray, List.set_cons_succ, List.set_cons_zero]
  obtain ⟨F, hF⟩ : ∃ F, F = pad k s n := ⟨_, rfl⟩
  have HFE := hid hF
  have FB := hid (show ∀ i, F i < 256 from fun i => by rw [hF]; exact sub_lt _ _ i)
  rw [show s ++ wPad ++ str (dec n) = lab s wPad n from rfl, show sub k (lab s wPad n) = pad k s n from rfl, ← hF]
  refine wpB_nil fun gp w2 hw2 qp hgp => ?_
  have c1 := hid (b1.out.below hw2 b1.out.lt)
  have c2 := hid (b2.out.below hw2 b2.out.lt)
  have cb := hid (hb.out.trans (hw2.mono hb.out.size))
  clear b0 b1 b2 hb hw2 hF
  unfold ptr
  go_upto_region 2 with ((with_reducible apply stA tK); rfl; rfl; exact qp)
  generalize hw3 : World.setRow _ _ _ = w3
  have d1 := show Blk w3 (w.heap.size + 1) 23 (ar 32 x) by rw [← hw3]; exact c1.out.setRow_other (by omega) _
  have d2 := show Blk w3 (w.heap.size + 1 + 1) 23 (ar 32 fun _ => 0) by rw [← hw3]; exact c2.out.setRow_other (by omega) _
  have dp := show Blk w3 gp 23 (ar 32 F) by rw [← hw3]; exact qp.setRow_same _
  have db := show Below w.heap.size w w3 by rw [← hw3]; exact below_setRow cb.out (by omega) _
  have hgl : w.heap.size + 1 + 1 < gp := by omega
  clear hw3 qp c1 c2 cb hgp hl1
  go_wp2_with fail
  go_loopw [10] (fun u wr => ∃ i : Nat, i ≤ 32 ∧ u = .int .i64 i ∧ Blk wr (w.heap.size + 1) 23 (ar 32 (upTo i x (xorF x F))) ∧ Blk wr (w.heap.size + 1 + 1) 23 (ar 32 fun _ => 0) ∧ Blk wr gp 23 (ar 32 F) ∧ Below w.heap.size w wr) (fun u _ => 32 - (intOf u).toNat)
  case atStart => exact ⟨0, by omega, rfl, by rw [upTo_zero]; exact d1, d2, dp, db⟩
  case round =>
    clear d1 d2 dp db
    obtain ⟨i, hi, rfl, b1, b2, bp, hb⟩ := hrel
    by_cases hlt : i < 32
    · have ti : (i : Int) < 32 := by omega
      have c1 : wr.cell? ⟨w.heap.size + 1, i, none⟩ = some (.int .u8 (x i : Nat)) := by rw [b1.cell, get_ar hlt, upTo_at]
      have c2 : wr.cell? ⟨gp, i, none⟩ = some (.int .u8 (F i : Nat)) := by rw [bp.cell, get_ar hlt]
      have c3 := b1.frozen i
      go_wp2_with fail
      go_still_tail 9, (by kernel_rfl)
      change wpList _ _ _ _ _ wr.drew
      rw [u8_xor_nat _ _ (HX.out i) (FB.out i)]
      go_wp2_with fail
      go_roundw
      case rel => exact ⟨i + 1, by omega, by go_num, (upTo_step (b1.setCell_same i _)).drew, (b2.setCell_other (by simp) _).drew, (bp.setCell_other (by show w.heap.size + 1 ≠ gp; omega) _).drew, (hb.setCell (by simp) _).drew⟩
      case measure => simp [intOf]; omega
    · have ti : decide ((i : Int) < 32) = false := by simp; omega
      rw [upTo_all (by omega)] at b1
      go_wp2_with (first | ((with_reducible apply ldA tK); rfl; exact b1) | ((with_reducible apply stA tK); rfl; rfl; exact b2))
      apply ret_ar tK Tryd.results24
      · rfl
      · rfl
      · exact b2.setRow_same _
      exact ⟨by rw [HFE.out], below_setRow hb (by omega) _⟩
end BxP
end Go.Proofs.YtdfoehcdabmagaaDoor
set_option maxRecDepth 100000
namespace Go.Proofs.YtdfoehcdabmagaaDoor
open Go.ChangeShapes Go.WideShapes Go.ChangeAt Go.RowKit
open DvP (tK tT sub)
attribute [local go_sem] Gives GivesE
namespace BxP
theorem tBox : ArT 29 64 := ⟨by kernel_rfl, ⟨_, Tryd.underlying29, rfl⟩, (zero_of_info (P := Tryd.prog) (t := 29) (v := .agg (ar 64 fun _ => 0)) (n := 64) (by kernel_rfl)).1⟩
theorem built_box (f g : Nat → Nat) (w : World) : (Instr.build 29 #[(0, .agg (ar 32 f)), (1, .agg (ar 32 g))]).run Tryd.prog w = .ok (.agg (ar 64 (duo f g))) w :=
  run_build w _ _ _ (built_duo (by kernel_rfl) Tryd.underlying29 (by kernel_rfl) f g)
section
variable {ops : Array Oper} {Q : Exit → Act → World → Prop} {a : Act} {w : World} {rest : List Oper} {dst : Option Tmp} {ty : TypeId} {pos : String} {after : Array Edge} {x y : Operand} {f g : Nat → Nat}
theorem bldBox (hx : a.eval x = .agg (ar 32 f)) (hy : a.eval y = .agg (ar 32 g)) (hk : wpList Tryd.prog ops Q rest (a.put dst (.agg (ar 64 (duo f g)))) w) :
    wpList Tryd.prog ops Q (⟨dst, .build 29 #[(0, x), (1, y)], ty, pos, after, none⟩ :: rest) a w := by
  have hr := built_box f g w
  refine wpList_plain rfl fun K hK => ?_
  unfold Oper.wp execOp
  simp [hx, hy, hr, Result.andThen]
  exact hK _ _ hk
end
theorem gE_ldK {a : Act} {w : World} {dst : Option Tmp} {ty : TypeId} {pos : String} {after : Array Edge} {x : Operand} {g o n : Nat} {f : Nat → Nat} {T : TypeId} {gd : Option (Nat × Bool)} {R : Value → World → Prop} (hT : ArT T n) (hx : a.eval x = .pointer (some ⟨g, o, none⟩)) (hb : w.rangeAt g o (ar n f).toList) (hR : R (.agg (ar n f)) w) : GivesE Tryd.prog ⟨dst, .load T x, ty, pos, after, gd⟩ a w R := by
  unfold GivesE
  simp only [execOp, hx, Sem.run_bind, run_ldm hT hb, Result.andThen_ok, Sem.run_pure]
  exact hR
/-- The tag of a box's data. -/
def tagB (k : Nat → Nat) (s : ByteArray) (n : Nat) (f : Nat → Nat) : Nat → Nat := HmM.tag (HmM.dl (sub k (lab s wSeal n))) (rowK f)
theorem tagB_lt (k : Nat → Nat) (s : ByteArray) (n : Nat) (f : Nat → Nat) : ∀ i, tagB k s n f i < 256 := fun i => HmM.tag_256 _ _ i
/-- A slice of so many bytes. -/
def slN (m : Nat) (v : Value) : Prop := ∃ (A : Option Addr) (c : Nat), v = .slice A m c
def wS (fx : List (Option Value)) (p q : Nat) (j : Nat) (v : Value) : Prop := if j = p then slN 32 v else if j = q then slN 38 v else match fx[j]? with
  | some (some u) => v = u
  | _ => True
def wV (fx : List (Option Value)) (p q : Nat) (j : Nat) : Value := if j = p then .slice none 32 0 else if j = q then .slice none 38 0 else match fx[j]? with
  | some (some u) => u
  | _ => undef
theorem wS_ok (fx : List (Option Value)) (p q j : Nat) : wS fx p q j (wV fx p q j) := by
  unfold wS wV
  split
  · exact ⟨none, 0, rfl⟩
  · split
    · exact ⟨none, 0, rfl⟩
    · split
      · rfl
      · trivial
def wD (p q : Nat) (l m : List Nat) (j : Nat) (vs : Nat → Value) (w : World) : Prop :=
  (j = p → ∃ A c, vs j = .slice A 32 c ∧ Arg w A l 32 c) ∧ (j = q → ∃ A c, vs j = .slice A 38 c ∧ Arg w A m 38 c)
section
variable {p q i j : Nat} {l m : List Nat} {vs : Nat → Value} {v : Value} {w w' : World}
theorem wD_below (h : wD p q l m j vs w) (hb : Below w.heap.size w w') : wD p q l m j vs w' :=
  ⟨fun e => by obtain ⟨A, c, h1, h2⟩ := h.1 e; exact ⟨A, c, h1, h2.on hb⟩, fun e => by obtain ⟨A, c, h1, h2⟩ := h.2 e; exact ⟨A, c, h1, h2.on hb⟩⟩
theorem wD_loc (hji : j ≠ i) (h : wD p q l m j vs w) : wD p q l m j (updV vs i v) w := by
  unfold wD at h ⊢
  rw [updV_ne _ _ hji]
  exact h
theorem wD_none (h1 : j ≠ p) (h2 : j ≠ q) : wD p q l m j vs w := ⟨fun e => absurd e h1, fun e => absurd e h2⟩
end
set_option maxHeartbeats 800000 in
theorem rwrap_any (k x : Nat → Nat) (hk : ∀ i, k i < 256) (hx : ∀ i, x i < 256) (s : ByteArray) (hs : s.size ≤ 100) (n : Nat) (hn : n < 18446744073709551616) (w : World) :
    Calls Tryd.prog 10 #[.agg (ar 32 k), .string s, .int .u64 n, .agg (ar 32 x)] w fun e w' => e = .returned (.agg (ar 64 (duo (xorF x (pad k s n)) (tagB k s n (xorF x (pad k s n)))))) ∧ Below w.heap.size w w' := by
  have HK := hid hk
  have HX := hid hx
  have HN := hid hn
  have HS := hid hs
  clear hk hx hn hs
  obtain ⟨D, hD⟩ : ∃ D, D = xorF x (pad k s n) := ⟨_, rfl⟩
  have HD := hid hD
  have DB := hid (show ∀ i, D i < 256 from by rw [hD]; exact xorF_lt HX.out (sub_lt _ _))
  rw [← hD]
  clear hD
  go_enter Tryd.func10, Tryd.ntmps10
  go_upto_region 1 with (with_reducible apply alA tBox)
  generalize hw1 : World.alloc (World.alloc (World.alloc w _) _) _ = w1
  have b0 := hid (show Blk w1 w.heap.size 23 (ar 32 k) by rw [← hw1]; exact ((Blk.new _ _ _).alloc _).alloc _)
  have b1 := hid (show Blk w1 (w.heap.size + 1) 23 (ar 32 x) by rw [← hw1]; exact (Blk.top rfl (by simp)).alloc _)
  have b2 := hid (show Blk w1 (w.heap.size + 1 + 1) 29 (ar 64 fun _ => 0) by rw [← hw1]; exact Blk.top rfl (by simp))
  have hb := hid (show Below w.heap.size w w1 by rw [← hw1]; exact (((Below.refl _ _).alloc (Nat.le_refl _) _).alloc (by simp) _).alloc (by simp; omega) _)
  clear hw1
  go_wp2_with (first | ((with_reducible apply ldA tK); rfl; exact b0.out) | ((with_reducible apply ldA tK); rfl; exact b1.out))
  refine (rmasked_any k x HK.out HX.out s HS.out n HN.out w1).mono ?_
  rintro e w2 ⟨rfl, h2⟩
  rw [← HD.out]
  have c0 := hid (b0.out.below h2 b0.out.lt)
  have c2 := hid (b2.out.below h2 b2.out.lt)
  have cb := hid (hb.out.trans (h2.mono hb.out.size))
  have hl2 := c2.out.lt
  clear b0 b1 b2 hb h2
  have hz : Blk (w2.alloc (.cells (ar 32 fun _ => 0) 23)) w2.heap.size 23 (ar 32 fun _ => 0) := Blk.new _ _ _
  obtain ⟨gd, hgd⟩ : ∃ gd, gd = w2.heap.size := ⟨_, rfl⟩
  go_upto_region 2 with (first | (with_reducible apply alA tK) | ((with_reducible apply stA tK); rfl; rfl; exact hz))
  rw [← hgd] at hz hl2 ⊢
  generalize hw3 : World.setRow _ _ _ = w3
  have b0 := hid (show Blk w3 w.heap.size 23 (ar 32 k) by rw [← hw3]; exact (c0.out.alloc _).setRow_other (by omega) _)
  have b2 := hid (show Blk w3 (w.heap.size + 1 + 1) 29 (ar 64 fun _ => 0) by rw [← hw3]; exact (c2.out.alloc _).setRow_other (by omega) _)
  have bd := hid (show Blk w3 gd 23 (ar 32 D) by rw [← hw3]; exact hz.setRow_same _)
  have hb := hid (show Below w.heap.size w w3 by rw [← hw3]; exact below_setRow (cb.out.alloc cb.out.size _) (by omega) _)
  clear hw3 hz c0 c2 cb hgd
  refine wp_region_ex (S := wS [some (.agg (ar 32 D)), some (.agg (ar 32 k)), some (.string s), some (.int .u64 n), none, some (.agg (ar 32 D)), none, some (.agg (ar 32 (tagB k s n D)))] 4 6) (D := wD 4 6 (HmM.dl (sub k (lab s wSeal n))) (rowK D)) (K := fun _ _ w w' => Below w.heap.size w w') (C := fun _ w' => Below w3.heap.size w3 w') 8 (by kernel_rfl) (by kernel_rfl) (by kernel_rfl)
    _ (wS_ok _ _ _) (fun i j vs w w' _ _ _ h hb => wD_below h hb) (fun j i vs v w hji _ h => wD_loc hji h) (Below.refl _ _).drew fun vs => ?_
  simp only [List.take_succ_cons, List.take_zero, List.drop_succ_cons, List.drop_zero]
  refine ⟨.inl ⟨rfl, fun dd w' hd hC hDs => ?_⟩, fun e => ?_⟩
  · exact gE_ldK tK rfl (bd.out.below hC bd.out.lt).head ⟨rfl, hC, Below.refl _ _, wD_none (by omega) (by omega)⟩
  have e' : vs 0 = _ := e
  rw [e']
  clear e e'
  simp only [Act.put, List.setIfInBounds_toArray, List.set_cons_succ, List.set_cons_zero]
  refine ⟨.inl ⟨rfl, fun dd w' hd hC hDs => ?_⟩, fun e => ?_⟩
  · exact gE_ldK tK rfl (b0.out.below hC b0.out.lt).head ⟨rfl, hC, Below.refl _ _, wD_none (by omega) (by omega)⟩
  have e' : vs 1 = _ := e
  rw [e']
  clear e e'
  simp only [Act.put, List.setIfInBounds_toArray, List.set_cons_succ, List.set_cons_zero]
  refine ⟨.inl ⟨rfl, fun dd w' hd hC hDs => ?_⟩, fun e => ?_⟩
  · go_simp
    exact ⟨rfl, Below.refl _ _, wD_none (by omega) (by omega)⟩
  have e' : vs 2 = _ := e
  rw [e']
  clear e e'
  simp only [Act.put, List.setIfInBounds_toArray, List.set_cons_succ, List.set_cons_zero]
  refine ⟨.inl ⟨rfl, fun dd w' hd hC hDs => ?_⟩, fun e => ?_⟩
  · go_simp
    exact ⟨rfl, Below.refl _ _, wD_none (by omega) (by omega)⟩
  have e' : vs 3 = _ := e
  rw [e']
  clear e e'
  simp only [Act.put, List.setIfInBounds_toArray, List.set_cons_succ, List.set_cons_zero]
  refine ⟨.inl ⟨rfl, fun dd w' hd hC hDs => ?_⟩, fun e => ?_⟩
  · go_simp
    refine (rsealkey_any k HK.out s HS.out n HN.out w').mono ?_
    rintro e w2 ⟨v, rfl, o2, h2⟩
    obtain ⟨A, cap, rfl, a2⟩ := o2.arg (HmM.dl_256 (sub_lt _ _))
    rw [HmM.dl_length] at a2 ⊢
    exact ⟨_, rfl, (show slN 32 _ from ⟨A, cap, rfl⟩), hC.trans (h2.mono hC.size), h2, ⟨fun _ => ⟨A, cap, updV_self _ _ _, a2⟩, fun e => absurd e (by decide)⟩⟩
  obtain ⟨A4, c4, e'⟩ : slN 32 (vs 4) := e
  rw [e']
  have E4 := hid e'
  clear e'
  simp only [Act.put, List.setIfInBounds_toArray, List.set_cons_succ, List.set_cons_zero]
  refine ⟨.inl ⟨rfl, fun dd w' hd hC hDs => ?_⟩, fun e => ?_⟩
  · exact gE_ldK tK rfl (bd.out.below hC bd.out.lt).head ⟨rfl, hC, Below.refl _ _, wD_none (by omega) (by omega)⟩
  have e' : vs 5 = _ := e
  rw [e']
  clear e e'
  simp only [Act.put, List.setIfInBounds_toArray, List.set_cons_succ, List.set_cons_zero]
  refine ⟨.inl ⟨rfl, fun dd w' hd hC hDs => ?_⟩, fun e => ?_⟩
  · go_simp
    refine (rrow10_any D DB.out w').mono ?_
    rintro e w2 ⟨v, rfl, o2, h2⟩
    obtain ⟨A, cap, rfl, a2⟩ := o2.arg (rowK_256 DB.out)
    rw [rowK_length] at a2 ⊢
    exact ⟨_, rfl, (show slN 38 _ from ⟨A, cap, rfl⟩), hC.trans (h2.mono hC.size), h2, ⟨fun e => absurd e (by decide), fun _ => ⟨A, cap, updV_self _ _ _, a2⟩⟩⟩
  obtain ⟨A6, c6, e'⟩ : slN 38 (vs 6) := e
  rw [e']
  have E6 := hid e'
  clear e'
  simp only [Act.put, List.setIfInBounds_toArray, List.set_cons_succ, List.set_cons_zero]
  refine ⟨.inl ⟨rfl, fun dd w' hd hC hDs => ?_⟩, fun e => ?_⟩
  · obtain ⟨B4, k4, f4, a4⟩ := (hDs 4 (by kernel_rfl)).1 rfl
    obtain ⟨B6, k6, f6, a6⟩ := (hDs 6 (by kernel_rfl)).2 rfl
    rw [E4.out] at f4
    rw [E6.out] at f6
    cases f4
    cases f6
    go_simp
    refine (rof_any A4 (HmM.dl (sub k (lab s wSeal n))) 32 c4 a4.len (by omega) a4.none a4.b256 A6 (rowK D) 38 c6 a6.len (by omega) a6.none a6.b256 w' a4.byt a6.byt).mono ?_
    rintro e w4 ⟨rfl, h4⟩
    exact ⟨_, rfl, rfl, hC.trans (h4.mono hC.size), h4, wD_none (by omega) (by omega)⟩
  have e' : vs 7 = _ := e
  rw [e']
  clear e e'
  obtain ⟨T, hT⟩ : ∃ T, T = tagB k s n D := ⟨_, rfl⟩
  have HTE := hid hT
  rw [← hT]
  simp only [Act.put, List.setIfInBounds_toArray, List.set_cons_succ, List.set_cons_zero]
  intro dd w' hall hC hDs
  have d2 := b2.out.below hC b2.out.lt
  have db := hid (hb.out.trans (hC.mono hb.out.size))
  clear b0 b2 bd hb hC hDs hall E4 E6 hT HD HX HK HN HS
  go_wp2_with (first | ((with_reducible apply bldBox); rfl; rfl) | ((with_reducible apply stA tBox); rfl; rfl; exact d2))
  apply ret_ar tBox Tryd.results10
  · rfl
  · rfl
  · exact d2.setRow_same _
  exact ⟨by rw [HTE.out], below_setRow db.out (by omega) _⟩
end BxP
end Go.Proofs.YtdfoehcdabmagaaDoor
