/-
  Rows of n bytes, by value and in memory, of any such type: loads, stores, new variables, returns, comparisons.
-/
import Derived.Test.YtfnepbkgmopjcaaOnly
import Derived.Test.YtfnepbkgmopjcaaBlkSet
import Derived.Test.YtfnepbkgmopjcaaEq
import Derived.Test.YtfnepbkgmopjcaaRegion
namespace Go.Proofs.Ytfnepbkgmopjcaa
open Go.ChangeShapes Go.WideShapes Go.ChangeAt Go.RowKit
/-- n bytes. -/
def ar (n : Nat) (f : Nat → Nat) : Array Value := row n fun k => .int .u8 (f k : Nat)
section
variable {n k v : Nat} {f g : Nat → Nat}
theorem size_ar : (ar n f).size = n := size_row
theorem get_ar (h : k < n) : (ar n f)[k]? = some (.int .u8 (f k : Nat)) := get_row_lt h
theorem ar_ext (h : ∀ k, k < n → f k = g k) : ar n f = ar n g := row_ext fun k hk => by rw [h k hk]
theorem ar_inj (h : ar n f = ar n g) : ∀ k, k < n → f k = g k := fun k hk => by
  have := row_inj h k hk
  simp only [Value.int.injEq, true_and] at this
  exact Int.ofNat_inj.1 this
theorem ar_set : (ar n f).setIfInBounds k (.int .u8 (v : Nat)) = ar n fun j => if j = k then v else f j := by
  unfold ar
  rw [row_set]
  exact row_ext fun j _ => by by_cases e : j = k <;> simp [e]
theorem ar_one : (ar n f).all (·.oneCell') = true := row_one fun _ _ => rfl
theorem ar_list_get {j : Nat} {v : Value} (h : (ar n f).toList[j]? = some v) : j < n ∧ v = .int .u8 (f j : Nat) := by
  rw [Array.getElem?_toList] at h
  by_cases hj : j < n
  · rw [get_ar hj] at h; exact ⟨hj, (Option.some.inj h).symm⟩
  · rw [ar, get_row, if_neg hj] at h; cases h
theorem ar_getD {j : Nat} (h : j < n) : (ar n f).toList.getD j undef = .int .u8 (f j : Nat) := by
  rw [List.getD_eq_getElem?_getD, Array.getElem?_toList, get_ar h]; rfl
/-- A loop over bytes: behind k rounds the first k are turned. -/
def upTo (k : Nat) (f h : Nat → Nat) : Nat → Nat := fun j => if j < k then h j else f j
theorem upTo_zero {f h : Nat → Nat} : upTo 0 f h = f := by funext j; simp [upTo]
theorem upTo_at {k : Nat} {f h : Nat → Nat} : upTo k f h k = f k := by simp [upTo]
theorem upTo_step {w : World} {b n k : Nat} {t : TypeId} {f h : Nat → Nat} (hb : Blk w b t ((ar n (upTo k f h)).setIfInBounds k (.int .u8 (h k : Nat)))) : Blk w b t (ar n (upTo (k + 1) f h)) := by
  rw [ar_set] at hb
  rw [ar_ext (g := fun j => if j = k then h k else upTo k f h j) fun j _ => ?_]
  · exact hb
  · unfold upTo
    by_cases e : j = k
    · subst e; simp
    · simp only [e, if_false]
      by_cases h2 : j < k
      · rw [if_pos h2, if_pos (by omega)]
      · rw [if_neg h2, if_neg (by omega)]
theorem upTo_all {n : Nat} {f h : Nat → Nat} {k : Nat} (hk : n ≤ k) : ar n (upTo k f h) = ar n h := ar_ext fun j hj => by unfold upTo; rw [if_pos (by omega)]
theorem Blk.arRange {w : World} {b o m : Nat} {t : TypeId} (hb : Blk w b t (ar n f)) (h : o + m ≤ n) : w.rangeAt b o (ar m fun k => f (o + k)).toList := fun j v hv => by
  obtain ⟨h1, rfl⟩ := ar_list_get hv
  rw [hb.cell, get_ar (by omega)]
/-- The bytes from place o on replaced. -/
def putA (o m : Nat) (f h : Nat → Nat) : Nat → Nat := fun j => if o ≤ j ∧ j < o + m then h (j - o) else f j
theorem Blk.arPut {w : World} {b o m : Nat} {t : TypeId} {h : Nat → Nat} (hb : Blk w b t (ar n f)) (hm : o + m ≤ n) : Blk (w.setCells b o (ar m h).toList) b t (ar n (putA o m f h)) ∧ Below b w (w.setCells b o (ar m h).toList) := by
  have hl : (ar m h).toList.length = m := by rw [Array.length_toList, size_ar]
  obtain ⟨h1, h2⟩ := blk_setCells (ar m h).toList o w _ hb (by rw [hl]; omega)
  refine ⟨?_, h2⟩
  have e : (row n fun j => if o ≤ j ∧ j < o + (ar m h).toList.length then (ar m h).toList.getD (j - o) undef else Value.int .u8 (f j : Nat)) = ar n (putA o m f h) := row_ext fun j _ => by
    rw [hl]
    show _ = Value.int .u8 ((if o ≤ j ∧ j < o + m then h (j - o) else f j : Nat) : Int)
    by_cases e : o ≤ j ∧ j < o + m
    · rw [if_pos e, if_pos e, ar_getD (by omega)]
    · rw [if_neg e, if_neg e]
  rw [e] at h1
  exact h1
theorem Blk.there {w : World} {b o m N : Nat} {t : TypeId} {F : Nat → Value} (hb : Blk w b t (row N F)) (hm : o + m ≤ N) : w.there b o m := fun j hj => by
  refine ⟨?_, hb.frozen _⟩
  rw [hb.cell, get_row_lt (by omega)]; rfl
end
/-- Of type T is a row of n bytes. -/
structure ArT (T : TypeId) (n : Nat) : Prop where
  size : (Try.prog.info? T).map (·.size) = some n
  desc : ∃ d, Try.prog.underlying T = some d ∧ d.isRow = true
  zero : ∀ w, (zeroValue T).run Try.prog w = .ok (.agg (ar n fun _ => 0)) w
section
variable {ops : Array Oper} {Q : Exit → Act → World → Prop} {a : Act} {w : World} {rest : List Oper} {dst : Option Tmp} {ty : TypeId} {pos : String} {after : Array Edge} {x y : Operand} {g o n m : Nat} {f f0 : Nat → Nat} {T t : TypeId}
theorem Blk.head (hb : Blk w g t (ar n f)) : w.rangeAt g 0 (ar n f).toList := by
  have h := hb.arRange (o := 0) (m := n) (by omega)
  rw [ar_ext (g := f) fun k _ => by rw [Nat.zero_add]] at h
  exact h
theorem ldAm (hT : ArT T n) (hx : a.eval x = .pointer (some ⟨g, o, none⟩)) (hb : w.rangeAt g o (ar n f).toList) (h : wpList Try.prog ops Q rest (a.put dst (.agg (ar n f))) w) :
    wpList Try.prog ops Q (⟨dst, .load T x, ty, pos, after, none⟩ :: rest) a w := by
  obtain ⟨d, h1, h2⟩ := hT.desc
  exact step_load_mid hb h1 h2 (hT.size.trans (by rw [Array.length_toList, size_ar])) hx (by rw [Array.toArray_toList]; exact h)
theorem ldA (hT : ArT T n) (hx : a.eval x = .pointer (some ⟨g, 0, none⟩)) (hb : Blk w g t (ar n f)) (h : wpList Try.prog ops Q rest (a.put dst (.agg (ar n f))) w) :
    wpList Try.prog ops Q (⟨dst, .load T x, ty, pos, after, none⟩ :: rest) a w := ldAm hT hx hb.head h
theorem stA (hT : ArT T n) (hx : a.eval x = .pointer (some ⟨g, 0, none⟩)) (hy : a.eval y = .agg (ar n f)) (hb : Blk w g t (ar n f0)) (h : wpList Try.prog ops Q rest (a.put dst undef) (w.setRow g (ar n f))) :
    wpList Try.prog ops Q (⟨dst, .store T x y, ty, pos, after, none⟩ :: rest) a w :=
  step_store_row hb (hT.size.trans (by rw [size_ar])) (by rw [size_ar, size_ar]) ar_one hx hy h
theorem run_alloc_ar (hT : ArT T n) (w : World) : (Instr.alloc T true (.tuple #[])).run Try.prog w = .ok (.pointer (some ⟨w.heap.size, 0, none⟩)) (w.alloc (.cells (ar n fun _ => 0) T)) := by
  simp [Instr.alloc, Sem.run_bind, hT.zero w, newVar, newRow, Value.cells]
theorem alA (hT : ArT T n) (h : wpList Try.prog ops Q rest (a.put dst (.pointer (some ⟨w.heap.size, 0, none⟩))) (w.alloc (.cells (ar n fun _ => 0) T))) :
    wpList Try.prog ops Q (⟨dst, .alloc T, ty, pos, after, none⟩ :: rest) a w := by
  refine wpList_plain rfl fun K hK => ?_
  unfold Oper.wp execOp
  simp only [Sem.run_bind, run_alloc_ar hT w, Result.andThen_ok, Sem.run_pure]
  exact hK _ _ h
theorem run_ldm (hT : ArT T n) {w : World} (hb : w.rangeAt g o (ar n f).toList) : (Instr.loadAt T (.pointer (some ⟨g, o, none⟩))).run Try.prog w = .ok (.agg (ar n f)) w := by
  obtain ⟨d, h1, h2⟩ := hT.desc
  have := run_loadAt_mid (P := Try.prog) w g o T (ar n f).toList _ hb h1 h2 (hT.size.trans (by rw [Array.length_toList, size_ar]))
  rwa [Array.toArray_toList] at this
section
variable {C : World → Prop} {Qk : Act → Prop} {gd : Option (Nat × Bool)}
theorem kldA (hT : ArT T n) (hwt : Region.wanted ⟨dst, .load T x, ty, pos, after, gd⟩ (yielded ops a.tmps) = true) (hx : a.eval x = .pointer (some ⟨g, o, none⟩)) (hb : ∀ w, C w → w.rangeAt g o (ar n f).toList) (h : wpK Try.prog ops C Qk rest (a.put dst (.agg (ar n f)))) :
    wpK Try.prog ops C Qk (⟨dst, .load T x, ty, pos, after, gd⟩ :: rest) a :=
  wpK_val hwt (fun w hw => gives_value (w' := w) (by simp only [execOp, hx, Sem.run_bind, run_ldm hT (hb w hw), Result.andThen_ok, Sem.run_pure]) hw) h
end
theorem ret_ar {fn : Func} {R : Ending → World → Prop} {p : Tmp} (hT : ArT T n) (hr : fn.results = #[.cell p T]) (hp : a.tmps.getD p undef = .pointer (some ⟨g, 0, none⟩)) (hdf : a.defers = [])
    (hb : Blk w g t (ar n f)) (hR : R (.returned (.agg (ar n f))) w) : bodyPost Try.prog fn R .ret a w := by
  obtain ⟨d, h1, h2⟩ := hT.desc
  exact ret_row hr hb h1 h2 (hT.size.trans (by rw [size_ar])) hp hdf hR
end
theorem run_index_ar {T : TypeId} {n k : Nat} {f : Nat → Nat} (hT : Try.prog.underlying T = some (.array n 5)) (hk : k < n) (w : World) : (Instr.index T (.agg (ar n f)) (.int .i64 k)).run Try.prog w = .ok (.int .u8 (f k : Nat)) w := by
  have h1 : (0 : Int) ≤ (k : Int) ∧ (k : Int) < n := by omega
  have hz : (Try.prog.info? 5).map (·.size) = some 1 := by kernel_rfl
  simp [Instr.index, run_underlying hT, asIntOf, h1, go_sem]
  rw [if_pos hk, get_ar hk]; rfl
def eqA (n : Nat) (f g : Nat → Nat) : Bool := eqN n (fun k => f k) fun k => g k
theorem eqA_iff {n : Nat} {f g : Nat → Nat} : eqA n f g = true ↔ ∀ k, k < n → f k = g k := by
  unfold eqA eqN
  rw [List.all_eq_true]
  constructor
  · intro h k hk
    have := h k (List.mem_range.2 hk)
    exact Int.ofNat_inj.1 (beq_iff_eq.1 this)
  · intro h k hk
    have := h k (List.mem_range.1 hk)
    exact beq_iff_eq.2 (congrArg _ this)
theorem eqA_yes {n : Nat} {f g : Nat → Nat} (h : ∀ k, k < n → f k = g k) : eqA n f g = true := eqA_iff.2 h
theorem eqA_no {n : Nat} {f g : Nat → Nat} (h : ¬ ∀ k, k < n → f k = g k) : eqA n f g = false := by
  cases e : eqA n f g with
  | false => rfl
  | true => exact absurd (eqA_iff.1 e) h
theorem run_eql_ar {T : TypeId} {n : Nat} (hT : Try.prog.underlying T = some (.array n 5)) (w : World) (f g : Nat → Nat) : (binOp .eql T (.agg (ar n f)) (.agg (ar n g))).run Try.prog w = .ok (.bool (eqA n f g)) w := by
  rw [run_eql_struct]
  have := run_equalIn_row (P := Try.prog) (d := 9998) (t := T) (e := 5) (k := .u8) (n := n) (f := fun k => f k) (g := fun k => g k) hT Try.underlying5 (by kernel_rfl) w
  unfold ar
  rw [this]
  rfl
theorem run_neq_ar {T : TypeId} {n : Nat} (hT : Try.prog.underlying T = some (.array n 5)) (w : World) (f g : Nat → Nat) : (binOp .neq T (.agg (ar n f)) (.agg (ar n g))).run Try.prog w = .ok (.bool (!eqA n f g)) w := by
  rw [run_neq_struct]
  have := run_equalIn_row (P := Try.prog) (d := 9998) (t := T) (e := 5) (k := .u8) (n := n) (f := fun k => f k) (g := fun k => g k) hT Try.underlying5 (by kernel_rfl) w
  unfold ar
  rw [this]
  rfl
end Go.Proofs.Ytfnepbkgmopjcaa
