/-
  Arrays by value, told by a function of the index; blocks of memory that are known whole.
-/
import Derived.Test.YtfnepbkgmopjcaaKit
import Derived.WalkKit
import Derived.BigQuiet
import Derived.Deep.QuietTactic
import Derived.Deep.Draws
import Derived.Deep.MidRow
import Derived.Below
namespace Go.Proofs.Ytfnepbkgmopjcaa
open Go.RowKit
theorem hid {p : Prop} (h : p) : RowKit.Hid p := h
/-- n cells, each told by its index. -/
def row (n : Nat) (f : Nat → Value) : Array Value := Array.ofFn (n := n) fun i => f i.val
theorem size_row {n : Nat} {f : Nat → Value} : (row n f).size = n := by simp [row]
theorem get_row {n : Nat} {f : Nat → Value} (k : Nat) : (row n f)[k]? = if k < n then some (f k) else none := by
  unfold row
  by_cases h : k < n
  · simp [h]
  · simp [h]
theorem get_row_lt {n : Nat} {f : Nat → Value} {k : Nat} (h : k < n) : (row n f)[k]? = some (f k) := by rw [get_row, if_pos h]
theorem row_ext {n : Nat} {f g : Nat → Value} (h : ∀ k, k < n → f k = g k) : row n f = row n g := by
  apply Array.ext_getElem?
  intro k
  rw [get_row, get_row]
  split
  · rw [h k ‹_›]
  · rfl
theorem row_set {n : Nat} {f : Nat → Value} {k : Nat} {v : Value} : (row n f).setIfInBounds k v = row n fun j => if j = k then v else f j := by
  apply Array.ext_getElem?
  intro j
  rw [Array.getElem?_setIfInBounds, get_row, get_row, size_row]
  by_cases hj : k = j
  · subst hj; simp
  · simp [hj, Ne.symm hj]
theorem row_inj {n : Nat} {f g : Nat → Value} (h : row n f = row n g) : ∀ k, k < n → f k = g k := fun k hk => by
  have := congrArg (fun a : Array Value => a[k]?) h
  simp only [get_row, if_pos hk, Option.some.injEq] at this
  exact this
/-- 64 bytes. -/
def sec (f : Nat → Nat) : Array Value := row 64 fun k => .int .u8 (f k)
theorem size_sec {f : Nat → Nat} : (sec f).size = 64 := size_row
theorem get_sec {f : Nat → Nat} {k : Nat} (h : k < 64) : (sec f)[k]? = some (.int .u8 (f k)) := get_row_lt h
theorem sec_ext {f g : Nat → Nat} (h : ∀ k, k < 64 → f k = g k) : sec f = sec g := row_ext fun k hk => by rw [h k hk]
theorem sec_inj {f g : Nat → Nat} (h : sec f = sec g) : ∀ k, k < 64 → f k = g k := fun k hk => by
  have := row_inj h k hk
  simp only [Value.int.injEq, true_and] at this
  exact Int.ofNat_inj.1 this
theorem sec_set {f : Nat → Nat} {k v : Nat} : (sec f).setIfInBounds k (.int .u8 v) = sec fun j => if j = k then v else f j := by
  unfold sec
  rw [row_set]
  exact row_ext fun j _ => by by_cases e : j = k <;> simp [e]
theorem row_one {n : Nat} {f : Nat → Value} (h : ∀ k, k < n → (f k).oneCell' = true) : (row n f).all (·.oneCell') = true := by
  rw [Array.all_eq_true]
  intro i hi
  have hi' : i < n := by simpa [size_row] using hi
  have e : (row n f)[i] = f i := by
    have := get_row (f := f) (n := n) i
    rw [if_pos hi', Array.getElem?_eq_getElem hi] at this
    exact Option.some.inj this
  rw [e]; exact h i hi'
theorem sec_one {f : Nat → Nat} : (sec f).all (·.oneCell') = true := row_one fun _ _ => rfl
theorem zeros_sec : (Array.replicate 64 (Value.int .u8 0)) = sec fun _ => 0 := by
  apply Array.ext_getElem?
  intro k
  unfold sec
  rw [get_row]
  by_cases h : k < 64
  · simp [h]
  · simp [h]

/-! ### Blocks that are known whole -/
def Blk (w : World) (g : Nat) (t : TypeId) (cs : Array Value) : Prop := w.heap[g]? = some (.cells cs t (0, 0))
section
variable {w w' : World} {g : Nat} {t : TypeId} {cs : Array Value}
theorem Blk.lt (h : Blk w g t cs) : g < w.heap.size := by
  rcases Nat.lt_or_ge g w.heap.size with hlt | hge
  · exact hlt
  · unfold Blk at h; rw [Array.getElem?_eq_none hge] at h; cases h
theorem Blk.cell (h : Blk w g t cs) (i : Nat) : w.cell? ⟨g, i, none⟩ = cs[i]? := cell_of_row w g i cs t (0, 0) h
theorem Blk.frozen (h : Blk w g t cs) (i : Nat) : w.frozen? ⟨g, i, none⟩ = false := by
  unfold Blk at h
  simp [World.frozen?, h]
theorem Blk.new (w : World) (t : TypeId) (cs : Array Value) : Blk (w.alloc (.cells cs t)) w.heap.size t cs := heap_alloc_new w _
theorem Blk.drew (h : Blk w g t cs) : Blk w.drew g t cs := h
theorem Blk.drewN (h : Blk w g t cs) (n : Nat) : Blk (w.drewN n) g t cs := h
theorem Blk.alloc (h : Blk w g t cs) (o : Obj) : Blk (w.alloc o) g t cs := (Below.heap_alloc w o g h.lt).trans h
theorem Blk.below {B : Nat} (h : Blk w g t cs) (hb : Below B w w') (hg : g < B) : Blk w' g t cs := (hb.block g hg).trans h
theorem Blk.setCell_same (h : Blk w g t cs) (i : Nat) (v : Value) : Blk (w.setCell ⟨g, i, none⟩ v) g t (cs.setIfInBounds i v) := by
  rw [setCell_eq_setRow w g i cs t (0, 0) v h]
  exact setRow_heap w g cs _ t _ h
theorem Blk.setCell_other (h : Blk w g t cs) {p : Addr} (hp : p.block ≠ g) (v : Value) : Blk (w.setCell p v) g t cs := (Below.heap_setCell w p v g (Ne.symm hp)).trans h
theorem Blk.setRow_same (h : Blk w g t cs) (cs' : Array Value) : Blk (w.setRow g cs') g t cs' := setRow_heap w g cs cs' t _ h
theorem Blk.setRow_other {g' : Nat} (h : Blk w g t cs) (hp : g' ≠ g) (cs' : Array Value) : Blk (w.setRow g' cs') g t cs := (Go.setRow_other w g' g cs' (Ne.symm hp)).trans h
theorem Blk.range (h : Blk w g t cs) (o n : Nat) : w.rangeAt g o (cs.extract o (o + n)).toList := World.rangeAt_of_block h o n
end
theorem below_setRow {B : Nat} {a w : World} (h : Below B a w) {g : Nat} (hg : B ≤ g) (cs : Array Value) : Below B a (w.setRow g cs) :=
  h.trans ⟨rfl, rfl, rfl, by simp, fun k hk => Go.setRow_other w g k cs (by omega)⟩
/-- What is stored where it stands turns nothing. -/
theorem Blk.setRow_id {w : World} {g : Nat} {t : TypeId} {cs : Array Value} (h : Blk w g t cs) : w.setRow g cs = w := setRow_self w g cs t (0, 0) h
theorem Blk.inj {w : World} {g : Nat} {t t' : TypeId} {cs cs' : Array Value} (h : Blk w g t cs) (h' : Blk w g t' cs') : cs = cs' := by
  unfold Blk at h h'
  rw [h] at h'
  simp only [Option.some.injEq, Obj.cells.injEq] at h'
  exact h'.1
/-- The zeros as the walk writes them out. -/
theorem zlit : (#[.int .u8 0, .int .u8 0, .int .u8 0, .int .u8 0, .int .u8 0, .int .u8 0, .int .u8 0, .int .u8 0, .int .u8 0, .int .u8 0, .int .u8 0, .int .u8 0, .int .u8 0, .int .u8 0, .int .u8 0, .int .u8 0, .int .u8 0, .int .u8 0, .int .u8 0, .int .u8 0, .int .u8 0, .int .u8 0, .int .u8 0, .int .u8 0, .int .u8 0, .int .u8 0, .int .u8 0, .int .u8 0, .int .u8 0, .int .u8 0, .int .u8 0, .int .u8 0, .int .u8 0, .int .u8 0, .int .u8 0, .int .u8 0, .int .u8 0, .int .u8 0, .int .u8 0, .int .u8 0, .int .u8 0, .int .u8 0, .int .u8 0, .int .u8 0, .int .u8 0, .int .u8 0, .int .u8 0, .int .u8 0, .int .u8 0, .int .u8 0, .int .u8 0, .int .u8 0, .int .u8 0, .int .u8 0, .int .u8 0, .int .u8 0, .int .u8 0, .int .u8 0, .int .u8 0, .int .u8 0, .int .u8 0, .int .u8 0, .int .u8 0, .int .u8 0] : Array Value) = sec fun _ => 0 := by rfl
theorem Blk.top {w : World} {n : Nat} {t : TypeId} {c cs : Array Value} (h : c = cs) (hn : n = w.heap.size) : Blk (w.alloc (.cells c t)) n t cs := by
  subst h hn; exact Blk.new w t c

/-! ### One operation of the walk: a whole sector out of, and into, a block; out of the middle of one -/
section
variable {P : Program} {ops : Array Oper} {Q : Exit → Act → World → Prop} {a : Act} {w : World} {rest : List Oper} {dst : Option Tmp} {ty : TypeId} {pos : String} {after : Array Edge}
theorem step_load_row {T : TypeId} {x : Operand} {g : Nat} {t : TypeId} {cs : Array Value} {d : TypeDesc} (hb : Blk w g t cs) (hu : P.underlying T = some d) (hd : d.isRow = true)
    (hi : (P.info? T).map (·.size) = some cs.size) (hx : a.eval x = .pointer (some ⟨g, 0, none⟩)) (h : wpList P ops Q rest (a.put dst (.agg cs)) w) :
    wpList P ops Q (⟨dst, .load T x, ty, pos, after, none⟩ :: rest) a w :=
  wpList_load_row rfl T x rfl g hx t cs (0, 0) d hb hu (by cases d <;> first | rfl | exact hd) hi h
theorem step_store_row {T : TypeId} {x y : Operand} {g : Nat} {t : TypeId} {old cs : Array Value} (hb : Blk w g t old) (hi : (P.info? T).map (·.size) = some cs.size) (hs : old.size = cs.size)
    (h1 : cs.all (·.oneCell') = true) (hx : a.eval x = .pointer (some ⟨g, 0, none⟩)) (hy : a.eval y = .agg cs) (h : wpList P ops Q rest (a.put dst undef) (w.setRow g cs)) :
    wpList P ops Q (⟨dst, .store T x y, ty, pos, after, none⟩ :: rest) a w :=
  wpList_store_row rfl T x y rfl g cs hx hy t old hb hi hs h1 h
theorem step_load_mid {T : TypeId} {x : Operand} {g o : Nat} {cs : List Value} {d : TypeDesc} (hc : w.rangeAt g o cs) (hu : P.underlying T = some d) (hd : d.isRow = true)
    (hi : (P.info? T).map (·.size) = some cs.length) (hx : a.eval x = .pointer (some ⟨g, o, none⟩)) (h : wpList P ops Q rest (a.put dst (.agg cs.toArray)) w) :
    wpList P ops Q (⟨dst, .load T x, ty, pos, after, none⟩ :: rest) a w :=
  wpList_load_mid rfl T x rfl g o hx cs d hc hu hd hi h
theorem ret_row {fn : Func} {R : Ending → World → Prop} {p : Tmp} {T : TypeId} {g : Nat} {t : TypeId} {cs : Array Value} {d : TypeDesc} (hr : fn.results = #[.cell p T]) (hb : Blk w g t cs)
    (hu : P.underlying T = some d) (hd : d.isRow = true) (hi : (P.info? T).map (·.size) = some cs.size) (hp : a.tmps.getD p undef = .pointer (some ⟨g, 0, none⟩)) (hdf : a.defers = [])
    (hR : R (.returned (.agg cs)) w) : bodyPost P fn R .ret a w :=
  bodyPost_ret (results_cell_row hr a.tmps w g t cs (0, 0) d hp hb hu (by cases d <;> first | rfl | exact hd) hi) hdf hR
end
end Go.Proofs.Ytfnepbkgmopjcaa
