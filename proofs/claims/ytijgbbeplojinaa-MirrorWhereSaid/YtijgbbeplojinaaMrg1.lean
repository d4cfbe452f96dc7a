/-
  Small general lemmas of the walks: facts hidden from the walk, quiet calls inside regions that draw their order, worlds behind draws.
  Arrays by value, told by a function of the index; blocks of memory that are known whole.
  Slices of bytes, told as lists.
  Geometries in plain numbers: how many sectors of which region there are, and where they lie.
  Worlds behind draws alone, and behind one new row.
  Worlds that differ in one block, and in new ones.
  Several cells of a block stored one behind the other.
  '==' of two arrays of integers.
  A region that draws its order, where each operation yields ONE value whatever has come up ahead of it, and a class of worlds (that may depend on what has come up) is handed on:   one look at each operation, at the lexical frame, serves every order. A tail in a fixed order may stand behind.
  Rows of n bytes, by value and in memory, of any such type: loads, stores, new variables, returns, comparisons.
  A region that draws its order and makes two new variables ('x, y := f(), g()'): their addresses hang on the order; all else does not.
  A region that draws its order and makes one new variable ('x := f(y)', the call no lone one): its address hangs on the order; all else does not.
  Rows of n bytes loaded in a drawn region that makes a variable.
  Structs and arrays of any cells, loaded and stored whole.
  A region in the text's order, walked as one that draws it (a class of worlds is handed on; guards are read off).
  Contracts of geom's check, leaves and logical sectors over this translation.
  Contracts of the Go library's functions over this translation, laid by the kit's own tool.
  Contracts of geom's counts over this translation.
  Contracts of geom's places over this translation.
-/
import Derived.WalkKit
import Derived.BigQuiet
import Derived.Deep.QuietTactic
import Derived.Deep.Draws
import Derived.Below
import Derived.Deep.MidRow
import Derived.Test.YtijgbbeplojinaaRows
import Derived.ProofKit
import Derived.OpenShut
import Derived.StillTailTactics
import Derived.Deep.Cut
import Derived.Outline
import Derived.Laws.StructEq
import Derived.StillTail
import Derived.Deep.Quiet
import Derived.KernelRfl
import Derived.Shelf.Small.Bits
import Derived.Shelf.Strconv.Itoa0
import Derived.Test.YtijgbbeplojinaaProg
import Derived.Lib.ItoaNum
set_option linter.unusedVariables false
set_option linter.unusedSimpArgs false
set_option maxRecDepth 100000
namespace Go.Proofs.Ytijgbbeplojinaa
open Go.RowKit
theorem below_drewN {B : Nat} {a w : World} (h : Below B a w) (n : Nat) : Below B a (w.drewN n) := ⟨h.os, h.tape, h.output, h.size, h.block⟩
end Go.Proofs.Ytijgbbeplojinaa
set_option maxRecDepth 100000
namespace Go.Proofs.Ytijgbbeplojinaa
open Go.RowKit
theorem hid {p : Prop} (h : p) : RowKit.Hid p := h
/-- n cells, each told by its index. -/
def row (n : Nat) (f : Nat → Value) : Array Value := Array.ofFn (n := n) fun i => f i.val
theorem size_row {n : Nat} {f : Nat → Value} : (row n f).size = n := by simp [row]
theorem get_row {n : Nat} {f : Nat → Value} (k : Nat) : (row n f)[k]? = if k < n then some (f k) else none := by
  unfold row
  by_cases h : k < n
  · simp [h]
  · simp [h]
theorem get_row_lt {n : Nat} {f : Nat → Value} {k : Nat} (h : k < n) : (row n f)[k]? = some (f k) := by rw [get_row, if_pos h]
theorem row_ext {n : Nat} {f g : Nat → Value} (h : ∀ k, k < n → f k = g k) : row n f = row n g := by
  apply Array.ext_getElem?
  intro k
  rw [get_row, get_row]
  split
  · rw [h k ‹_›]
  · rfl
/-- 64 bytes. -/
def sec (f : Nat → Nat) : Array Value := row 64 fun k => .int .u8 (f k)
/-! ### Blocks that are known whole -/
def Blk (w : World) (g : Nat) (t : TypeId) (cs : Array Value) : Prop := w.heap[g]? = some (.cells cs t (0, 0))
section
variable {w w' : World} {g : Nat} {t : TypeId} {cs : Array Value}
theorem Blk.lt (h : Blk w g t cs) : g < w.heap.size := by
  rcases Nat.lt_or_ge g w.heap.size with hlt | hge
  · exact hlt
  · unfold Blk at h; rw [Array.getElem?_eq_none hge] at h; cases h
theorem Blk.cell (h : Blk w g t cs) (i : Nat) : w.cell? ⟨g, i, none⟩ = cs[i]? := cell_of_row w g i cs t (0, 0) h
theorem Blk.frozen (h : Blk w g t cs) (i : Nat) : w.frozen? ⟨g, i, none⟩ = false := by
  unfold Blk at h
  simp [World.frozen?, h]
theorem Blk.new (w : World) (t : TypeId) (cs : Array Value) : Blk (w.alloc (.cells cs t)) w.heap.size t cs := heap_alloc_new w _
theorem Blk.drew (h : Blk w g t cs) : Blk w.drew g t cs := h
theorem Blk.drewN (h : Blk w g t cs) (n : Nat) : Blk (w.drewN n) g t cs := h
theorem Blk.alloc (h : Blk w g t cs) (o : Obj) : Blk (w.alloc o) g t cs := (Below.heap_alloc w o g h.lt).trans h
theorem Blk.below {B : Nat} (h : Blk w g t cs) (hb : Below B w w') (hg : g < B) : Blk w' g t cs := (hb.block g hg).trans h
theorem Blk.setCell_same (h : Blk w g t cs) (i : Nat) (v : Value) : Blk (w.setCell ⟨g, i, none⟩ v) g t (cs.setIfInBounds i v) := by
  rw [setCell_eq_setRow w g i cs t (0, 0) v h]
  exact setRow_heap w g cs _ t _ h
theorem Blk.setCell_other (h : Blk w g t cs) {p : Addr} (hp : p.block ≠ g) (v : Value) : Blk (w.setCell p v) g t cs := (Below.heap_setCell w p v g (Ne.symm hp)).trans h
theorem Blk.setRow_same (h : Blk w g t cs) (cs' : Array Value) : Blk (w.setRow g cs') g t cs' := setRow_heap w g cs cs' t _ h
theorem Blk.setRow_other {g' : Nat} (h : Blk w g t cs) (hp : g' ≠ g) (cs' : Array Value) : Blk (w.setRow g' cs') g t cs := (Go.setRow_other w g' g cs' (Ne.symm hp)).trans h
theorem Blk.range (h : Blk w g t cs) (o n : Nat) : w.rangeAt g o (cs.extract o (o + n)).toList := World.rangeAt_of_block h o n
end
theorem below_setRow {B : Nat} {a w : World} (h : Below B a w) {g : Nat} (hg : B ≤ g) (cs : Array Value) : Below B a (w.setRow g cs) :=
  h.trans ⟨rfl, rfl, rfl, by simp, fun k hk => Go.setRow_other w g k cs (by omega)⟩
theorem Blk.inj {w : World} {g : Nat} {t t' : TypeId} {cs cs' : Array Value} (h : Blk w g t cs) (h' : Blk w g t' cs') : cs = cs' := by
  unfold Blk at h h'
  rw [h] at h'
  simp only [Option.some.injEq, Obj.cells.injEq] at h'
  exact h'.1
theorem Blk.top {w : World} {n : Nat} {t : TypeId} {c cs : Array Value} (h : c = cs) (hn : n = w.heap.size) : Blk (w.alloc (.cells c t)) n t cs := by
  subst h hn; exact Blk.new w t c

/-! ### One operation of the walk: a whole sector out of, and into, a block; out of the middle of one -/
section
variable {P : Program} {ops : Array Oper} {Q : Exit → Act → World → Prop} {a : Act} {w : World} {rest : List Oper} {dst : Option Tmp} {ty : TypeId} {pos : String} {after : Array Edge}
theorem step_store_row {T : TypeId} {x y : Operand} {g : Nat} {t : TypeId} {old cs : Array Value} (hb : Blk w g t old) (hi : (P.info? T).map (·.size) = some cs.size) (hs : old.size = cs.size)
    (h1 : cs.all (·.oneCell') = true) (hx : a.eval x = .pointer (some ⟨g, 0, none⟩)) (hy : a.eval y = .agg cs) (h : wpList P ops Q rest (a.put dst undef) (w.setRow g cs)) :
    wpList P ops Q (⟨dst, .store T x y, ty, pos, after, none⟩ :: rest) a w :=
  wpList_store_row rfl T x y rfl g cs hx hy t old hb hi hs h1 h
theorem step_load_mid {T : TypeId} {x : Operand} {g o : Nat} {cs : List Value} {d : TypeDesc} (hc : w.rangeAt g o cs) (hu : P.underlying T = some d) (hd : d.isRow = true)
    (hi : (P.info? T).map (·.size) = some cs.length) (hx : a.eval x = .pointer (some ⟨g, o, none⟩)) (h : wpList P ops Q rest (a.put dst (.agg cs.toArray)) w) :
    wpList P ops Q (⟨dst, .load T x, ty, pos, after, none⟩ :: rest) a w :=
  wpList_load_mid rfl T x rfl g o hx cs d hc hu hd hi h
theorem ret_row {fn : Func} {R : Ending → World → Prop} {p : Tmp} {T : TypeId} {g : Nat} {t : TypeId} {cs : Array Value} {d : TypeDesc} (hr : fn.results = #[.cell p T]) (hb : Blk w g t cs)
    (hu : P.underlying T = some d) (hd : d.isRow = true) (hi : (P.info? T).map (·.size) = some cs.size) (hp : a.tmps.getD p undef = .pointer (some ⟨g, 0, none⟩)) (hdf : a.defers = [])
    (hR : R (.returned (.agg cs)) w) : bodyPost P fn R .ret a w :=
  bodyPost_ret (results_cell_row hr a.tmps w g t cs (0, 0) d hp hb hu (by cases d <;> first | rfl | exact hd) hi) hdf hR
end
end Go.Proofs.Ytijgbbeplojinaa
set_option maxRecDepth 100000
namespace Go.Proofs.Ytijgbbeplojinaa
open Go.ChangeShapes Go.WideShapes Go.ChangeAt Go.RowKit
/-- A slice of the bytes of l, in one row below block B. -/
def Byt (w : World) (B : Nat) (A : Option Addr) (l : List Nat) : Prop :=
  0 < l.length → ∃ b o, A = some ⟨b, o, none⟩ ∧ b < B ∧ ∀ i, i < l.length → w.cell? ⟨b, o + i, none⟩ = some (.int .u8 (l.getD i 0 : Nat))
theorem Byt.below {B B' : Nat} {w w' : World} {A : Option Addr} {l : List Nat} (h : Byt w B A l) (hb : Below B' w w') (hB : B ≤ B') : Byt w' B A l := fun hn => by
  obtain ⟨b, o, rfl, hl, hr⟩ := h hn
  exact ⟨b, o, rfl, hl, fun i hi => (hb.cell (p := ⟨b, o + i, none⟩) (by show b < B'; omega)).trans (hr i hi)⟩
theorem Byt.more {B B' : Nat} {w : World} {A : Option Addr} {l : List Nat} (h : Byt w B A l) (hB : B ≤ B') : Byt w B' A l := fun hn => by
  obtain ⟨b, o, rfl, hl, hr⟩ := h hn
  exact ⟨b, o, rfl, by omega, hr⟩
def B256 (l : List Nat) : Prop := ∀ x ∈ l, x < 256
theorem B256.take {l : List Nat} (h : B256 l) (n : Nat) : B256 (l.take n) := fun x hx => h x (List.mem_of_mem_take hx)
theorem B256.drop {l : List Nat} (h : B256 l) (n : Nat) : B256 (l.drop n) := fun x hx => h x (List.mem_of_mem_drop hx)
theorem B256.append {l k : List Nat} (h : B256 l) (h' : B256 k) : B256 (l ++ k) := fun x hx => (List.mem_append.1 hx).elim (h x) (h' x)
theorem getD_take {l : List Nat} {n i : Nat} (h : i < n) : (l.take n).getD i 0 = l.getD i 0 := by
  rw [List.getD_eq_getElem?_getD, List.getD_eq_getElem?_getD, List.getElem?_take_of_lt h]
theorem getD_drop {l : List Nat} {n i : Nat} : (l.drop n).getD i 0 = l.getD (n + i) 0 := by
  rw [List.getD_eq_getElem?_getD, List.getD_eq_getElem?_getD, List.getElem?_drop]
theorem Byt.take {w : World} {B : Nat} {A : Option Addr} {l : List Nat} (h : Byt w B A l) (n : Nat) : Byt w B A (l.take n) := fun hn => by
  rw [List.length_take] at hn
  obtain ⟨b, o, rfl, hl, hr⟩ := h (by omega)
  refine ⟨b, o, rfl, hl, fun i hi => ?_⟩
  rw [List.length_take] at hi
  rw [getD_take (by omega)]
  exact hr i (by omega)
theorem Byt.drop {w : World} {B b o : Nat} {l : List Nat} (h : Byt w B (some ⟨b, o, none⟩) l) (n : Nat) : Byt w B (some ⟨b, o + n, none⟩) (l.drop n) := fun hn => by
  rw [List.length_drop] at hn
  obtain ⟨b', o', e, hl, hr⟩ := h (by omega)
  cases e
  refine ⟨b, o + n, rfl, hl, fun i hi => ?_⟩
  rw [List.length_drop] at hi
  rw [getD_drop, Nat.add_assoc]
  exact hr (n + i) (by omega)
theorem Byt.none {w : World} {B : Nat} {A : Option Addr} {l : List Nat} (h : l.length = 0) : Byt w B A l := fun hn => by omega
def lenOf : Value → Nat
  | .slice _ n _ => n
  | _ => 0
end Go.Proofs.Ytijgbbeplojinaa
set_option maxRecDepth 100000
namespace Go.Proofs.Ytijgbbeplojinaa
namespace GeM
/-- A geometry: 4 to 64 members, 1 to 64 rows. -/
def Good (a b : Int) : Prop := 4 ≤ a ∧ a ≤ 64 ∧ 1 ≤ b ∧ b ≤ 64
instance (a b : Int) : Decidable (Good a b) := by unfold Good; infer_instance
def lv (m r : Nat) : Nat := m * r
def ht (m r : Nat) : Nat := Nat.log2 (m * r - 1) + 1
def nd (m r : Nat) : Nat := 2 ^ ht m r - 1
def lo (m r : Nat) : Nat := r * (m - 2)
def mx (m : Nat) : Nat := if 6 < m then m else 6
def cp (m r : Nat) : Nat := mx m + (if nd m r < mx m * ht m r then nd m r else mx m * ht m r) + 8
def hf (m r : Nat) : Nat := 2 + (69 * cp m r + 63) / 64
/-- How many sectors of region k there are. -/
def sz (m r k : Nat) : Nat := match k with
  | 1 => 8
  | 2 => 2 * hf m r
  | 3 => nd m r
  | 4 => r
  | _ => 0
/-- The first place of region k. -/
def st (m r k : Nat) : Nat := match k with
  | 2 => 8
  | 3 => 8 + 2 * hf m r
  | 4 => 8 + 2 * hf m r + nd m r
  | 5 => 8 + 2 * hf m r + nd m r + r
  | _ => 0
def sec (m r : Nat) : Nat := st m r 5
/-- The least index of region k. -/
def lw (k : Int) : Nat := if k = 3 then 1 else 0
/-- A number of a geometry, 0 of what is none. -/
def L (f : Nat → Nat → Nat) (a b : Int) : Nat := if Good a b then f a.toNat b.toNat else 0
theorem L_good {f : Nat → Nat → Nat} {m r : Nat} (h : Good m r) : L f m r = f m r := by simp [L, h]
theorem L_bad {f : Nat → Nat → Nat} {a b : Int} (h : ¬ Good a b) : L f a b = 0 := by simp [L, h]
theorem good_nat {a b : Int} (h : Good a b) : ∃ m r : Nat, a = m ∧ b = r ∧ 4 ≤ m ∧ m ≤ 64 ∧ 1 ≤ r ∧ r ≤ 64 := by
  obtain ⟨h1, h2, h3, h4⟩ := h
  exact ⟨a.toNat, b.toNat, by omega, by omega, by omega, by omega, by omega, by omega⟩
section
variable {m r : Nat}
theorem lv_bd (h : Good m r) : 4 ≤ lv m r ∧ lv m r ≤ 4096 := by
  obtain ⟨h1, h2, h3, h4⟩ := h
  unfold lv
  have a := Nat.mul_le_mul (show m ≤ 64 by omega) (show r ≤ 64 by omega)
  have b := Nat.mul_le_mul (show 4 ≤ m by omega) (show 1 ≤ r by omega)
  omega
theorem ht_up (h : Good m r) : lv m r ≤ 2 ^ ht m r := by
  have := lv_bd h
  have h1 : m * r - 1 < 2 ^ (Nat.log2 (m * r - 1) + 1) := Nat.lt_log2_self
  unfold ht lv at *
  omega
theorem ht_lo (h : Good m r) : 2 ^ (ht m r - 1) < lv m r := by
  have := lv_bd h
  unfold lv at this
  have h1 : 2 ^ Nat.log2 (m * r - 1) ≤ m * r - 1 := Nat.log2_self_le (by omega)
  unfold ht lv
  rw [Nat.add_sub_cancel]
  omega
theorem ht_pos : 1 ≤ ht m r := by unfold ht; omega
theorem ht_bd (h : Good m r) : ht m r ≤ 12 := by
  have h1 := ht_lo h
  have h2 := lv_bd h
  rcases Nat.lt_or_ge 12 (ht m r) with e | e
  · have := Nat.pow_le_pow_right (show 0 < 2 by omega) (show 12 ≤ ht m r - 1 by omega)
    omega
  · exact e
theorem pow_two (h : Good m r) : 2 ^ ht m r < 2 * lv m r := by
  have h1 := ht_lo h
  have h2 : 2 ^ ht m r = 2 * 2 ^ (ht m r - 1) := by
    have := @ht_pos m r
    rw [show ht m r = (ht m r - 1) + 1 by omega, Nat.pow_succ, Nat.add_sub_cancel]
    omega
  omega
/-- The height is the least that has places for all leaves. -/
theorem ht_of (h : Good m r) {k : Nat} (hk : lv m r ≤ 2 ^ k) (hl : ∀ j, j < k → 2 ^ j < lv m r) : k = ht m r := by
  rcases Nat.lt_trichotomy k (ht m r) with e | e | e
  · have h1 := ht_lo h
    have := Nat.pow_le_pow_right (show 0 < 2 by omega) (show k ≤ ht m r - 1 by omega)
    omega
  · exact e
  · have := hl _ e
    have := ht_up h
    omega
theorem nd_eq (_ : Good m r) : nd m r + 1 = 2 ^ ht m r := by
  have := Nat.pow_pos (n := ht m r) (show 0 < 2 by omega)
  unfold nd
  omega
theorem nd_bd (h : Good m r) : 3 ≤ nd m r ∧ nd m r ≤ 8190 := by
  have h1 := nd_eq h
  have h2 := pow_two h
  have h3 := ht_up h
  have h4 := lv_bd h
  omega
theorem mx_bd (h : Good m r) : 6 ≤ mx m ∧ mx m ≤ 64 := by
  obtain ⟨h1, h2, h3, h4⟩ := h
  unfold mx
  split <;> omega
theorem mh_bd (h : Good m r) : mx m * ht m r ≤ 768 := by
  have h1 := ht_bd h
  have h2 := mx_bd h
  have := Nat.mul_le_mul h2.2 h1
  omega
theorem cp_bd (h : Good m r) : 14 ≤ cp m r ∧ cp m r ≤ 840 := by
  have h1 := mh_bd h
  have h2 := mx_bd h
  unfold cp
  split <;> omega
theorem hf_bd (h : Good m r) : 2 ≤ hf m r ∧ hf m r ≤ 908 := by
  have := cp_bd h
  unfold hf
  omega
theorem r_bd (h : Good m r) : 4 ≤ m ∧ m ≤ 64 ∧ 1 ≤ r ∧ r ≤ 64 := by
  obtain ⟨h1, h2, h3, h4⟩ := h
  omega
theorem sec_bd (h : Good m r) : sec m r ≤ 20000 := by
  have h1 := hf_bd h
  have h2 := nd_bd h
  have h3 := r_bd h
  show 8 + 2 * hf m r + nd m r + r ≤ 20000
  omega
end
/-- Where region k's sector i lies. -/
def pl (a b k i : Int) : Option Nat :=
  if Good a b ∧ 1 ≤ k ∧ k ≤ 4 ∧ (lw k : Int) ≤ i ∧ i - lw k < sz a.toNat b.toNat k.toNat then some (st a.toNat b.toNat k.toNat + (i - lw k).toNat) else none
/-- The region in which place p lies. -/
def rg (a b p : Int) : Nat :=
  if p < st a.toNat b.toNat 2 then 1 else if p < st a.toNat b.toNat 3 then 2 else if p < st a.toNat b.toNat 4 then 3 else 4
/-- The sector at place p. -/
def wh (a b p : Int) : Option (Nat × Nat) :=
  if Good a b ∧ 0 ≤ p ∧ p < sec a.toNat b.toNat then some (rg a b p, p.toNat - st a.toNat b.toNat (rg a b p) + lw (rg a b p)) else none
theorem st_2 (m r : Nat) : st m r 2 = 8 := rfl
theorem st_3 (m r : Nat) : st m r 3 = 8 + 2 * hf m r := rfl
theorem st_4 (m r : Nat) : st m r 4 = 8 + 2 * hf m r + nd m r := rfl
theorem st_5 (m r : Nat) : st m r 5 = 8 + 2 * hf m r + nd m r + r := rfl
theorem sz_2 (m r : Nat) : sz m r 2 = 2 * hf m r := rfl
theorem sz_3 (m r : Nat) : sz m r 3 = nd m r := rfl
theorem sz_4 (m r : Nat) : sz m r 4 = r := rfl
/-- Region k begins where the one ahead ends. -/
theorem st_sz (m r : Nat) {k : Nat} (h1 : 1 ≤ k) (h4 : k ≤ 4) : st m r (k + 1) = st m r k + sz m r k := by
  have : k = 1 ∨ k = 2 ∨ k = 3 ∨ k = 4 := by omega
  rcases this with rfl | rfl | rfl | rfl <;> simp [st, sz]
end GeM
end Go.Proofs.Ytijgbbeplojinaa
set_option maxRecDepth 100000
namespace Go.Proofs.Ytijgbbeplojinaa
open Go.ChangeShapes Go.WideShapes Go.ChangeAt Go.RowKit
def Drew (w w' : World) : Prop := ∃ k, w' = w.drewN k
theorem Drew.refl (w : World) : Drew w w.drew := ⟨1, rfl⟩
theorem Drew.cell {w w' : World} (h : Drew w w') {p : Addr} {v : Value} (hc : w.cell? p = some v) : w'.cell? p = some v := by
  obtain ⟨k, rfl⟩ := h; exact hc
theorem Drew.blk {w w' : World} (h : Drew w w') {g : Nat} {t : TypeId} {cs : Array Value} (hc : Blk w g t cs) : Blk w' g t cs := by
  obtain ⟨k, rfl⟩ := h; exact hc
theorem Drew.below {B : Nat} {a w w' : World} (h : Drew w w') (hb : Below B a w) : Below B a w' := by
  obtain ⟨k, rfl⟩ := h; exact below_drewN hb k
theorem Drew.heap {w w' : World} (h : Drew w w') : w'.heap = w.heap := by obtain ⟨k, rfl⟩ := h; rfl
/-- The worlds of a region in which one new row is made. -/
def Put (w : World) (o : Obj) (bb : Bool) (w' : World) : Prop := match bb with
  | false => Drew w w'
  | true => ∃ w7, Drew w w7 ∧ w' = w7.alloc o
theorem Put.cell {w w' : World} {o : Obj} {bb : Bool} (h : Put w o bb w') {p : Addr} {v : Value} (hp : p.block < w.heap.size) (hc : w.cell? p = some v) : w'.cell? p = some v := by
  cases bb with
  | false => exact Drew.cell h hc
  | true =>
    obtain ⟨w7, h7, rfl⟩ := h
    exact (((Below.refl w7.heap.size w7).alloc (Nat.le_refl _) _).cell (by rw [h7.heap]; exact hp)).trans (h7.cell hc)
theorem Drew.trans {w w' w'' : World} (h : Drew w w') (h2 : Drew w' w'') : Drew w w'' := by
  obtain ⟨a, ha⟩ := h
  obtain ⟨b, hb⟩ := h2
  exact ⟨a + b, by rw [hb, ha]; simp⟩
end Go.Proofs.Ytijgbbeplojinaa
set_option maxRecDepth 100000
namespace Go.Proofs.Ytijgbbeplojinaa
open Go.ChangeShapes Go.WideShapes Go.ChangeAt Go.RowKit
/-! ### Only block g has turned -/
theorem Blk.only {a b : World} {g k : Nat} {t : TypeId} {cs : Array Value} (h : Blk a k t cs) (ho : a.grownBy b (some g)) (hne : k ≠ g) : Blk b k t cs := (ho.block k h.lt (fun e => hne (by injection e))).trans h
end Go.Proofs.Ytijgbbeplojinaa
set_option maxRecDepth 100000
namespace Go.Proofs.Ytijgbbeplojinaa
open Go.RowKit
section
variable {w : World} {g : Nat} {t : TypeId}
end
end Go.Proofs.Ytijgbbeplojinaa
set_option maxRecDepth 100000
namespace Go.Proofs.Ytijgbbeplojinaa
open Go.RowKit
/-- Are the first n alike? -/
def eqN (n : Nat) (f g : Nat → Int) : Bool := (List.range n).all fun k => f k == g k
section
variable {P : Program}
end
/-- Are two sectors alike? -/
def eqS (f g : Nat → Nat) : Bool := eqN 64 (fun k => f k) fun k => g k
end Go.Proofs.Ytijgbbeplojinaa
set_option maxRecDepth 100000
namespace Go.Proofs.Ytijgbbeplojinaa

/-- One operation, carried out in the world w, yields v; R holds of the world behind it. -/
def Gives (P : Program) (o : Oper) (a : Act) (w : World) (v : Value) (R : World → Prop) : Prop :=
  match (execOp a.eval o).run P w with
  | .ok (.value u) w' => u = v ∧ R w'
  | .ok .skip w' => v = undef ∧ R w'
  | .ok (.enter f args) w' => Calls P f args w' fun e w'' => e = .returned v ∧ R w''
  | _ => False

theorem wp_of_gives {P : Program} {o : Oper} {a : Act} {w : World} {v : Value} {R : World → Prop} {K : Act → World → Prop} {Q : Exit → Act → World → Prop}
    (h : Gives P o a w v R) (hK : ∀ w', R w' → K (a.put o.dst v) w') : o.wp P a w K Q := by
  unfold Gives at h
  unfold Oper.wp
  generalize (execOp a.eval o).run P w = r at *
  cases r with
  | ok n w' =>
    cases n <;> simp only at h <;> simp only [Oper.upon]
    case value u => obtain ⟨rfl, h⟩ := h; exact hK _ h
    case skip => obtain ⟨rfl, h⟩ := h; exact hK _ h
    case enter f args => exact h.mono fun e w'' ⟨he, hr⟩ => by subst he; exact hK _ hr
  | halt x w' => cases h

section
variable (ops : Array Oper)
/-- What a look at the texts of the operations shows. -/
def tidyPair (k j : Nat) (o p : Oper) : Bool :=
  j == k || ((match p.dst with | some _ => p.dst != o.dst | none => true) &&
    (match p.dst with | some d => !(o.looksAt ops).contains d || Region.waitsFor .any ops k j || (decide (k < j) && Region.waitsFor .any ops j k) | none => true))
def tidyAt (k : Nat) (o : Oper) : Bool :=
  (o.after.all fun e => !Region.binds .any e || decide (e.on < k)) && (List.range ops.size).all fun j => match ops[j]? with | some p => tidyPair ops k j o p | none => true
def tidy : Bool := Region.noSelect ops && (List.range ops.size).all fun k => match ops[k]? with | some o => tidyAt ops k o | none => true

def dstAt (j : Nat) : Option Tmp := (ops[j]?).bind (·.dst)
/-- The frame behind those of the first n operations that have come up. -/
def fr (vals : Nat → Value) (l : Nat → Bool) : Nat → Act → Act
  | 0, a => a
  | k + 1, a => if l k then (fr vals l k a).put (dstAt ops k) (vals k) else fr vals l k a
/-- Whatever has come up, all that it waits for has come up. -/
def Closed (L : Array Bool) : Prop := ∀ j o, ops[j]? = some o → L.getD j false = true → ∀ e ∈ o.after, Region.binds .any e = true → L.getD e.on false = true
end

section
variable {P : Program} {ops : Array Oper}
theorem tidy_at (h : tidy ops = true) {k : Nat} {o : Oper} (ho : ops[k]? = some o) : tidyAt ops k o = true := by
  simp only [tidy, Bool.and_eq_true] at h
  have hk : k < ops.size := (Array.getElem?_eq_some_iff.1 ho).1
  have := List.all_eq_true.1 h.2 k (List.mem_range.2 hk)
  simpa [ho] using this
theorem tidy_edge (h : tidy ops = true) {k : Nat} {o : Oper} (ho : ops[k]? = some o) : ∀ e ∈ o.after, Region.binds .any e = true → e.on < k := by
  intro e he hb
  have := tidy_at h ho
  simp only [tidyAt, Bool.and_eq_true] at this
  have h1 := (Array.all_eq_true_iff_forall_mem.1 this.1) e he
  simpa [hb] using h1
theorem tidy_pair (h : tidy ops = true) {k j : Nat} {o p : Oper} (ho : ops[k]? = some o) (hp : ops[j]? = some p) : tidyPair ops k j o p = true := by
  have := tidy_at h ho
  simp only [tidyAt, Bool.and_eq_true] at this
  have hj : j < ops.size := (Array.getElem?_eq_some_iff.1 hp).1
  have h1 := List.all_eq_true.1 this.2 j (List.mem_range.2 hj)
  simpa [hp] using h1
theorem dst_ne (h : tidy ops = true) {k j : Nat} (hne : j ≠ k) : ∀ d, dstAt ops j = some d → dstAt ops k ≠ some d := by
  intro d hj hk
  unfold dstAt at hj hk
  cases hoj : ops[j]? with
  | none => simp [hoj] at hj
  | some p =>
    cases hok : ops[k]? with
    | none => simp [hok] at hk
    | some o =>
      simp only [hoj, hok, Option.bind_some] at hj hk
      have := tidy_pair h hok hoj
      simp [tidyPair, hne, hj, hk] at this

theorem fr_congr {vals : Nat → Value} {l l' : Nat → Bool} : ∀ {n : Nat} {a : Act}, (∀ j, j < n → l j = l' j) → fr ops vals l n a = fr ops vals l' n a
  | 0, _, _ => rfl
  | n + 1, a, h => by
    simp only [fr, h n (by omega), fr_congr (n := n) (a := a) fun j hj => h j (by omega)]
theorem fr_vals {vals vals' : Nat → Value} {l : Nat → Bool} : ∀ {n : Nat} {a : Act}, (∀ j, j < n → l j = true → vals j = vals' j) → fr ops vals l n a = fr ops vals' l n a
  | 0, _, _ => rfl
  | n + 1, a, h => by
    simp only [fr, fr_vals (n := n) (a := a) fun j hj => h j (by omega)]
    by_cases e : l n = true
    · rw [if_pos e, if_pos e, h n (by omega) e]
    · rw [if_neg e, if_neg e]
theorem fr_set (h : tidy ops = true) {vals : Nat → Value} {l : Nat → Bool} {i : Nat} (hl : l i = false) :
    ∀ {n : Nat} {a : Act}, i < n → fr ops vals (fun j => l j || j == i) n a = (fr ops vals l n a).put (dstAt ops i) (vals i)
  | 0, _, hi => by omega
  | n + 1, a, hi => by
    by_cases e : i = n
    · subst e
      simp only [fr, beq_self_eq_true, Bool.or_true, if_true, hl, Bool.false_eq_true, if_false]
      congr 1
      exact fr_congr fun j hj => by
        have : (j == i) = false := by simp; omega
        simp [this]
    · have ih := fr_set h (vals := vals) hl (n := n) (a := a) (by omega)
      have : (n == i) = false := by simp; omega
      simp only [fr, this, Bool.or_false, ih]
      cases l n with
      | true => simp only [if_true]; exact Act.put_comm _ _ _ (dst_ne h e)
      | false => simp
theorem size_put (a : Act) (d : Option Tmp) (v : Value) : (a.put d v).tmps.size = a.tmps.size := by cases d <;> simp [Act.put]
theorem size_fr {vals : Nat → Value} {l : Nat → Bool} : ∀ {n : Nat} {a : Act}, (fr ops vals l n a).tmps.size = a.tmps.size
  | 0, _ => rfl
  | n + 1, a => by
    simp only [fr]
    split
    · rw [size_put, size_fr]
    · exact size_fr
theorem fr_get {vals : Nat → Value} {l l' : Nat → Bool} {t : Tmp} : ∀ {n : Nat} {a : Act}, (∀ j, j < n → dstAt ops j = some t → l j = l' j) →
    (fr ops vals l n a).tmps[t]? = (fr ops vals l' n a).tmps[t]?
  | 0, _, _ => rfl
  | n + 1, a, h => by
    have ih := fr_get (vals := vals) (n := n) (a := a) fun j hj => h j (by omega)
    have hput : ∀ (b : Act) (v : Value), dstAt ops n ≠ some t → (b.put (dstAt ops n) v).tmps[t]? = b.tmps[t]? := fun b v hne => by
      cases hd : dstAt ops n with
      | none => rfl
      | some d =>
        have hdt : d ≠ t := fun e => hne (by rw [hd, e])
        simp [Act.put, Array.getElem?_setIfInBounds_ne hdt]
    by_cases hd : dstAt ops n = some t
    · have e := h n (by omega) hd
      simp only [fr, e]
      split
      · simp only [Act.put, hd, Array.getElem?_setIfInBounds_self, size_fr]
      · exact ih
    · simp only [fr]
      split <;> split
      · rw [hput _ _ hd, hput _ _ hd]; exact ih
      · rw [hput _ _ hd]; exact ih
      · rw [hput _ _ hd]; exact ih
      · exact ih

theorem exec_same (h : tidy ops = true) {vals : Nat → Value} {L : Array Bool} {k n : Nat} {o : Oper} {a : Act} (ho : ops[k]? = some o) (hcl : Closed ops L) (hr : k ∈ Region.ready .any ops L) :
    execOp (fr ops vals (fun j => L.getD j false) n a).eval o = execOp (fr ops vals (fun j => decide (j < k)) n a).eval o ∧
    Region.wanted o (yielded ops (fr ops vals (fun j => L.getD j false) n a).tmps) = Region.wanted o (yielded ops (fr ops vals (fun j => decide (j < k)) n a).tmps) := by
  obtain ⟨hun, o', ho', hall⟩ := mem_ready.1 hr
  obtain rfl : o = o' := Option.some.inj (ho.symm.trans ho')
  have hunf := getD_both hun
  have key : ∀ t, t ∈ o.looksAt ops → (fr ops vals (fun j => L.getD j false) n a).tmps[t]? = (fr ops vals (fun j => decide (j < k)) n a).tmps[t]? := fun t ht => fr_get fun j _ hd => by
    unfold dstAt at hd
    cases hp : ops[j]? with
    | none => simp [hp] at hd
    | some p =>
      simp only [hp, Option.bind_some] at hd
      have hpair := tidy_pair h ho hp
      by_cases e : j = k
      · subst e; rw [hunf]; simp
      · have hc : (o.looksAt ops).contains t = true := by simpa using ht
        simp only [tidyPair, hd, hc] at hpair
        simp [e] at hpair
        rcases hpair.2 with hw | ⟨hlt, hw⟩
        · obtain ⟨o2, ho2, e2, he2, hb2, hon⟩ := Region.waitsFor_spec hw
          obtain rfl : o = o2 := Option.some.inj (ho.symm.trans ho2)
          have h1 := hall e2 he2 hb2
          have h2 := tidy_edge h ho e2 he2 hb2
          rw [hon] at h1 h2
          rw [h1]; simp [h2]
        · obtain ⟨p2, hp2, e2, he2, hb2, hon⟩ := Region.waitsFor_spec hw
          obtain rfl : p = p2 := Option.some.inj (hp.symm.trans hp2)
          cases hl : L.getD j false with
          | true =>
            have := hcl j p hp hl e2 he2 hb2
            rw [hon, hunf] at this
            cases this
          | false => simp; omega
  constructor
  · refine execOp_congr o (fun cs b => Region.noSelect_spec (by simp only [tidy, Bool.and_eq_true] at h; exact h.1) k o cs b ho) fun x hx => ?_
    cases x with
    | tmp t =>
      have ht : t ∈ o.looksAt ops := List.mem_append_left _ (List.mem_filterMap.2 ⟨.tmp t, by simpa using hx, rfl⟩)
      show Array.getD _ t undef = Array.getD _ t undef
      rw [Array.getD_eq_getD_getElem?, Array.getD_eq_getD_getElem?, key t ht]
    | _ => rfl
  · unfold Region.wanted
    cases hg : o.guard with
    | none => rfl
    | some gw =>
      obtain ⟨g, want⟩ := gw
      simp only
      congr 1
      unfold yielded
      cases hd : (ops[g]?).bind (·.dst) with
      | none => rfl
      | some d =>
        have ht : d ∈ o.looksAt ops := List.mem_append_right _ (by simp [hg, hd])
        simp only [Option.bind_some, key d ht]

theorem countP_one {l : List Nat} {i : Nat} {p q : Nat → Bool} (hp : p i = true) (hq : q i = false) (h : ∀ j, j ≠ i → q j = p j) : l.Nodup → i ∈ l → l.countP q + 1 = l.countP p := by
  induction l with
  | nil => intro _ hi; cases hi
  | cons x l ih =>
    intro hn hi
    rw [List.nodup_cons] at hn
    by_cases e : x = i
    · subst e
      rw [List.countP_cons, List.countP_cons, hp, hq]
      have : l.countP q = l.countP p := by
        apply List.countP_congr
        intro j hj
        rw [h j fun e => hn.1 (e ▸ hj)]
      simp [this]
    · rw [List.countP_cons, List.countP_cons, h x e]
      have hi' : i ∈ l := by
        cases hi with
        | head => exact absurd rfl e
        | tail _ h => exact h
      have := ih hn.2 hi'
      omega
theorem getD_up {L : Array Bool} {i : Nat} (hi : i < L.size) (h : L.getD i true = true) : L.getD i false = true := by
  simp [hi] at h ⊢; exact h
def cnt (n : Nat) (L : Array Bool) : Nat := (List.range n).countP fun i => !L.getD i true

theorem closed_set {L : Array Bool} (h : Closed ops L) {i : Nat} (hr : i ∈ Region.ready .any ops L) : Closed ops (L.setIfInBounds i true) := by
  obtain ⟨_, oi, hoi, hall⟩ := mem_ready.1 hr
  intro j o ho hl e he hb
  by_cases hij : i = j
  · subst hij
    obtain rfl : o = oi := Option.some.inj (ho.symm.trans hoi)
    exact getD_set_true (hall e he hb)
  · rw [getD_set_ne false hij] at hl
    exact getD_set_true (h j o ho hl e he hb)

/-- The head of a region: the first n operations, in whatever order; behind them the tail. -/
theorem head_any {Γ : Type} {n g : Nat} {Q : Exit → Act → World → Prop} {vals : Γ → Nat → Value} {C : Γ → Array Bool → World → Prop} {a0 : Act} (ht : tidy ops = true) (hn : n ≤ ops.size)
    (hstep : ∀ k o, k < n → ops[k]? = some o → ∀ γ L w, L.size = ops.size → Closed ops L → k ∈ Region.ready .any ops L → C γ L w →
      ∃ γ', (∀ j, L.getD j false = true → vals γ j = vals γ' j) ∧
      ((Region.wanted o (yielded ops (fr ops (vals γ) (fun j => decide (j < k)) ops.size a0).tmps) = true ∧ Gives P o (fr ops (vals γ) (fun j => decide (j < k)) ops.size a0) w (vals γ' k) (C γ' (L.setIfInBounds k true))) ∨
      (Region.wanted o (yielded ops (fr ops (vals γ) (fun j => decide (j < k)) ops.size a0).tmps) = false ∧ vals γ' k = undef ∧ C γ' (L.setIfInBounds k true) w)))
    (hsink : ∀ L, L.size = ops.size → Closed ops L → (∀ t, n ≤ t → t < ops.size → L.getD t true = false) → ∀ i, i < n → L.getD i true = false → ∀ t ∈ Region.ready .any ops L, t < n)
    (htail : ∀ γ L w, L.size = ops.size → (∀ i, i < n → L.getD i false = true) → (∀ t, n ≤ t → t < ops.size → L.getD t true = false) → C γ L w →
      wpAny P .any ops Q g L (fr ops (vals γ) (fun j => decide (j < n)) ops.size a0) w) :
    ∀ (f : Nat) (γ : Γ) (L : Array Bool) (w : World), L.size = ops.size → Closed ops L → (∀ t, n ≤ t → t < ops.size → L.getD t true = false) → cnt n L = f → C γ L w →
      wpAny P .any ops Q (f + g) L (fr ops (vals γ) (fun j => L.getD j false) ops.size a0) w
  | 0, γ, L, w, hs, hcl, htl, hc, hC => by
    have hall : ∀ i, i < n → L.getD i false = true := fun i hi => by
      have h1 : ∀ j ∈ List.range n, ¬ (!L.getD j true) = true := List.countP_eq_zero.1 hc
      have h2 := h1 i (List.mem_range.2 hi)
      exact getD_up (by omega) (by simpa using h2)
    rw [Nat.zero_add, fr_congr (l' := fun j => decide (j < n)) fun j hj => ?_]
    · exact htail γ L w hs hall htl hC
    · by_cases hjn : j < n
      · rw [hall j hjn]; simp [hjn]
      · rw [getD_both (htl j (by omega) hj)]; simp [hjn]
  | f + 1, γ, L, w, hs, hcl, htl, hc, hC => by
    rw [show f + 1 + g = (f + g) + 1 by omega]
    -- the least that has not come up may come up
    have hex : ∃ i, i < n ∧ L.getD i true = false := by
      have hpos : 0 < (List.range n).countP fun i => !L.getD i true := by unfold cnt at hc; omega
      obtain ⟨i, hi, h1⟩ := List.countP_pos_iff.1 hpos
      exact ⟨i, List.mem_range.1 hi, by simpa using h1⟩
    have hready : ∃ i, i ∈ Region.ready .any ops L := by
      obtain ⟨i, hi, hun⟩ := hex
      induction i using Nat.strongRecOn with
      | _ i ih =>
        by_cases hless : ∃ j, j < i ∧ L.getD j true = false
        · obtain ⟨j, hj, hjun⟩ := hless
          exact ih j hj (by omega) hjun
        · have hio : i < ops.size := by omega
          refine ⟨i, mem_ready.2 ⟨hun, ops[i], Array.getElem?_eq_getElem hio, fun e he hb => ?_⟩⟩
          have hlt := tidy_edge ht (Array.getElem?_eq_getElem hio) e he hb
          refine getD_up (by omega) ?_
          cases h0 : L.getD e.on true with
          | true => rfl
          | false => exact absurd ⟨e.on, hlt, h0⟩ hless
    obtain ⟨i0, hi0, hun0⟩ := hex
    refine ⟨fun h0 => (by obtain ⟨i, hi⟩ := hready; rw [h0] at hi; cases hi), fun i hi => ?_⟩
    have hin : i < n := hsink L hs hcl htl i0 hi0 hun0 i hi
    obtain ⟨hun, o, ho, _⟩ := mem_ready.1 hi
    have hio : i < ops.size := by omega
    obtain ⟨hex1, hex2⟩ := exec_same (vals := vals γ) (n := ops.size) (a := a0) ht ho hcl hi
    obtain ⟨γ', hag, hst⟩ := hstep i o hin ho γ L w hs hcl hi hC
    have hnext : ∀ w', C γ' (L.setIfInBounds i true) w' → wpAny P .any ops Q (f + g) (L.setIfInBounds i true) ((fr ops (vals γ) (fun j => L.getD j false) ops.size a0).put o.dst (vals γ' i)) w' := fun w' hC' => by
      have ih := head_any (g := g) (Q := Q) ht hn hstep hsink htail f γ' (L.setIfInBounds i true) w' (by simpa using hs) (closed_set hcl hi) (fun t h1 h2 => by rw [getD_set_ne true (by omega)]; exact htl t h1 h2)
        (by
          have h1 : cnt n (L.setIfInBounds i true) + 1 = cnt n L := by
            refine countP_one (i := i) (by simpa using hun) ?_ (fun j hj => by rw [getD_set_ne true (Ne.symm hj)]) List.nodup_range (List.mem_range.2 hin)
            simp [show i < L.size by omega]
          omega) hC'
      rw [fr_congr (l' := fun j => L.getD j false || j == i) fun j _ => ?_, fr_set ht (getD_both hun) hio, ← fr_vals fun j _ hj => hag j hj] at ih
      · unfold dstAt at ih; rw [ho] at ih; exact ih
      · by_cases e : j = i
        · subst e; simp [show j < L.size by omega]
        · have : (j == i) = false := by simpa using e
          rw [getD_set_ne false (Ne.symm e), this, Bool.or_false]
    unfold wpOp
    simp only [ho]
    rcases hst with ⟨hw, hg⟩ | ⟨hw, hv, hC'⟩
    · rw [hex2, if_pos hw]
      refine .inl (wp_of_gives (v := vals γ' i) (R := C γ' (L.setIfInBounds i true)) ?_ hnext)
      unfold Gives at hg ⊢
      rw [hex1]; exact hg
    · rw [hex2, hw, if_neg (by simp)]
      rw [← hv]
      exact hnext w hC'

/-! ### One class of worlds; the lexical walk -/
/-- The operations in the order of the text; C: the class of worlds that each is handed, and hands on. -/
def wpK (P : Program) (ops : Array Oper) (C : World → Prop) (Q : Act → Prop) : List Oper → Act → Prop
  | [], a => Q a
  | o :: rest, a => ∃ v, ((Region.wanted o (yielded ops a.tmps) = true ∧ ∀ w, C w → Gives P o a w v C) ∨ (Region.wanted o (yielded ops a.tmps) = false ∧ v = undef)) ∧ wpK P ops C Q rest (a.put o.dst v)
section
variable {C : World → Prop} {Qk : Act → Prop} {o : Oper} {rest : List Oper} {a : Act} {v : Value}
theorem wpK_nil (h : Qk a) : wpK P ops C Qk [] a := h
theorem wpK_val (hw : Region.wanted o (yielded ops a.tmps) = true) (h1 : ∀ w, C w → Gives P o a w v C) (h2 : wpK P ops C Qk rest (a.put o.dst v)) : wpK P ops C Qk (o :: rest) a := ⟨v, .inl ⟨hw, h1⟩, h2⟩
theorem wpK_not (hw : Region.wanted o (yielded ops a.tmps) = false) (h2 : wpK P ops C Qk rest (a.put o.dst undef)) : wpK P ops C Qk (o :: rest) a := ⟨undef, .inr ⟨hw, rfl⟩, h2⟩
theorem gives_value {w w' : World} {R : World → Prop} (h : (execOp a.eval o).run P w = .ok (.value v) w') (hR : R w') : Gives P o a w v R := by unfold Gives; rw [h]; exact ⟨rfl, hR⟩
end

/-- The frames of the lexical walk. -/
def lexF (l : List Oper) (vals : Nat → Value) : Nat → Act → Act
  | 0, a => a
  | i + 1, a => (lexF l vals i a).put ((l[i]?).bind (·.dst)) (vals i)
theorem lexF_cons {o : Oper} {l : List Oper} {vals : Nat → Value} : ∀ {i : Nat} {a : Act}, lexF (o :: l) vals (i + 1) a = lexF l (fun j => vals (j + 1)) i (a.put o.dst (vals 0))
  | 0, a => by simp [lexF]
  | i + 1, a => by
    have := lexF_cons (o := o) (l := l) (vals := vals) (i := i) (a := a)
    rw [lexF, this]
    simp [lexF]
theorem wpK_vals {C : World → Prop} {Qk : Act → Prop} : ∀ (l : List Oper) (a : Act), wpK P ops C Qk l a → ∃ vals : Nat → Value, Qk (lexF l vals l.length a) ∧
    ∀ i o, l[i]? = some o → ((Region.wanted o (yielded ops (lexF l vals i a).tmps) = true ∧ ∀ w, C w → Gives P o (lexF l vals i a) w (vals i) C) ∨ (Region.wanted o (yielded ops (lexF l vals i a).tmps) = false ∧ vals i = undef))
  | [], a, h => ⟨fun _ => undef, h, fun i o hi => by simp at hi⟩
  | o :: l, a, h => by
    obtain ⟨v, h1, h2⟩ := h
    obtain ⟨vals, hq, hs⟩ := wpK_vals l _ h2
    refine ⟨fun j => match j with | 0 => v | j + 1 => vals j, ?_, fun i o' hi => ?_⟩
    · rw [List.length_cons, lexF_cons]; exact hq
    · cases i with
      | zero =>
        simp only [List.getElem?_cons_zero, Option.some.injEq] at hi
        subst hi
        exact h1
      | succ i =>
        rw [lexF_cons]
        exact hs i o' (by simpa using hi)
theorem fr_stop {vals : Nat → Value} {k : Nat} : ∀ (d : Nat) (a : Act), fr ops vals (fun j => decide (j < k)) (k + d) a = fr ops vals (fun j => decide (j < k)) k a
  | 0, _ => rfl
  | d + 1, a => by
    rw [← Nat.add_assoc, fr, if_neg (by simp), fr_stop d a]
theorem lexF_fr {n : Nat} {vals : Nat → Value} {a : Act} (hn : n ≤ ops.size) : ∀ i, i ≤ n → lexF (ops.toList.take n) vals i a = fr ops vals (fun j => decide (j < i)) ops.size a := by
  intro i hi
  obtain ⟨d, hd⟩ : ∃ d, ops.size = i + d := ⟨ops.size - i, by omega⟩
  rw [hd, fr_stop]
  clear hd d
  induction i with
  | zero => rfl
  | succ i ih =>
    rw [lexF, ih (by omega), fr, if_pos (by simp)]
    rw [fr_congr (l := fun j => decide (j < i + 1)) (l' := fun j => decide (j < i)) fun j hj => by simp [hj]; omega]
    congr 1
    unfold dstAt
    rw [List.getElem?_take_of_lt (by omega)]
    simp

def tailL (n m : Nat) : Array Bool := (List.replicate n true ++ List.replicate m false).toArray
/-- The tail stands in a fixed order behind the n first; or there is none. -/
def tailB (ops : Array Oper) (n : Nat) : Bool :=
  decide (n = ops.size) || (decide (n < ops.size) && Region.sinkB .any ops n && Region.chainB .any ops n && Region.seqB .any ops (ops.size - n) n (tailL n (ops.size - n)))

theorem region_core {id : Nat} {Q : Exit → Act → World → Prop} {Γ : Type} {C : Γ → Array Bool → World → Prop} {a : Act} {w : World} {l : List Oper} (n : Nat) (hm : P.follows .mixedOrders = true) (ht : tidy l.toArray = true) (hB : tailB l.toArray n = true)
    (γ0 : Γ) (hC : C γ0 (Array.replicate l.length false) w.drew) (vals : Γ → Nat → Value)
    (hs : ∀ i o, (l.take n)[i]? = some o → ∀ γ L w, L.size = l.length → i ∈ Region.ready .any l.toArray L → C γ L w →
      ∃ γ', (∀ j, L.getD j false = true → vals γ j = vals γ' j) ∧
      ((Region.wanted o (yielded l.toArray (lexF (l.take n) (vals γ) i a).tmps) = true ∧ Gives P o (lexF (l.take n) (vals γ) i a) w (vals γ' i) (C γ' (L.setIfInBounds i true))) ∨
      (Region.wanted o (yielded l.toArray (lexF (l.take n) (vals γ) i a).tmps) = false ∧ vals γ' i = undef ∧ C γ' (L.setIfInBounds i true) w)))
    (hq : ∀ γ L w', (∀ i, i < n → L.getD i false = true) → C γ L w' → wpList P l.toArray Q (l.drop n) (lexF (l.take n) (vals γ) (l.take n).length a) w') : (Code.region id l.toArray true).wp P Q a w := by
  refine wp_region_any hm ?_
  have hn : n ≤ l.toArray.size := by
    simp only [tailB, Bool.or_eq_true, Bool.and_eq_true, decide_eq_true_eq] at hB
    rcases hB with h | h <;> omega
  have hlen : (l.take n).length = n := by rw [List.length_take]; simp at hn; omega
  simp only [hlen] at hq
  have hfr : ∀ (γ : Γ) i, i ≤ n → lexF (l.take n) (vals γ) i a = fr l.toArray (vals γ) (fun j => decide (j < i)) l.toArray.size a := fun γ i hi => by
    have := lexF_fr (ops := l.toArray) (vals := vals γ) (a := a) hn i hi
    simpa using this
  have H := head_any (P := P) (ops := l.toArray) (n := n) (g := l.toArray.size - n) (Q := Q) (vals := vals) (C := C) (a0 := a) ht hn
    (fun k o hk ho γ L w' hsz _ hr hC' => by
      have hko : (l.take n)[k]? = some o := by rw [List.getElem?_take_of_lt hk]; simpa using ho
      have := hs k o hko γ L w' (by simpa using hsz) hr hC'
      rwa [hfr γ k (by omega)] at this)
    (fun L hL hcl htl i hi hun t hr => by
      obtain ⟨hunt, o, ho, _⟩ := mem_ready.1 hr
      have hto : t < l.toArray.size := (Array.getElem?_eq_some_iff.1 ho).1
      simp only [tailB, Bool.or_eq_true, Bool.and_eq_true, decide_eq_true_eq] at hB
      rcases hB with hB | ⟨⟨⟨hB1, hB2⟩, hB3⟩, _⟩
      · omega
      · rcases Nat.lt_or_ge t n with h | h
        · exact h
        · exact absurd hr (tail_waits hB2 hB3 hB1 ⟨hL, hcl, htl⟩ _ i rfl hi hun t h))
    (fun γ L w' hL hall htl hC' => by
      rw [← hfr γ n (Nat.le_refl n)]
      have hlist := hq γ L w' hall hC'
      have hLe : L = tailL n (l.toArray.size - n) := by
        apply Array.ext_getElem?
        intro j
        unfold tailL
        rw [show ((List.replicate n true ++ List.replicate (l.toArray.size - n) false).toArray)[j]? = (List.replicate n true ++ List.replicate (l.toArray.size - n) false)[j]? from List.getElem?_toArray .., List.getElem?_append]
        simp only [List.length_replicate]
        by_cases hj : j < n
        · have := hall j hj
          rw [if_pos hj]
          simp [show j < L.size by omega] at this
          simp [hj, show j < L.size by omega, this]
        · rw [if_neg hj]
          by_cases hj2 : j < l.toArray.size
          · have := htl j (by omega) hj2
            simp [show j < L.size by omega] at this
            rw [Array.getElem?_eq_getElem (by omega), this, List.getElem?_replicate, if_pos (by omega)]
          · rw [Array.getElem?_eq_none (by omega), List.getElem?_replicate, if_neg (by omega)]
      simp only [tailB, Bool.or_eq_true, Bool.and_eq_true, decide_eq_true_eq] at hB
      rcases hB with hB | ⟨⟨⟨hB1, hB2⟩, hB3⟩, hB4⟩
      · rw [show l.toArray.size - n = 0 by omega]
        have hd : l.drop n = [] := List.drop_eq_nil_of_le (by simp at hB; omega)
        rw [hd] at hlist
        refine ⟨?_, hlist⟩
        apply List.eq_nil_iff_forall_not_mem.2
        intro t hr
        obtain ⟨hunt, o, ho, _⟩ := mem_ready.1 hr
        have hto : t < l.toArray.size := (Array.getElem?_eq_some_iff.1 ho).1
        have := hall t (by omega)
        rw [getD_both hunt] at this
        cases this
      · have hdl : (l.drop n).length = l.toArray.size - n := by simp
        have := wpAny_of_seq (P := P) (ops := l.toArray) (md := .any) (Q' := Q) (l.drop n) n L _ w' (fun j => by simp [List.getElem?_drop]) (by rw [hdl, hLe]; exact hB4) hlist
        rwa [hdl] at this)
    (cnt n (Array.replicate l.toArray.size false)) γ0 (Array.replicate l.toArray.size false) w.drew (by simp) (fun j o _ hl => by rw [getD_replicate_false] at hl; cases hl)
    (fun t _ hts => getD_in (by simpa using hts) (getD_replicate_false _ _)) rfl (by simpa using hC)
  have hc : cnt n (Array.replicate l.toArray.size false) = n := by
    unfold cnt
    have : ∀ i ∈ List.range n, (!(Array.replicate l.toArray.size false).getD i true) = true := fun i hi => by
      have hi' := List.mem_range.1 hi
      have : i < l.length := by simp at hn; omega
      simp [this]
    rw [List.countP_eq_length.2 this, List.length_range]
  rw [hc, show n + (l.toArray.size - n) = l.toArray.size by omega] at H
  have hz : fr l.toArray (vals γ0) (fun j => (Array.replicate l.toArray.size false).getD j false) l.toArray.size a = a := by
    rw [fr_congr (l' := fun j => decide (j < 0)) fun j _ => by rw [getD_replicate_false]; simp]
    have := fr_stop (ops := l.toArray) (vals := vals γ0) (k := 0) l.toArray.size a
    rw [Nat.zero_add] at this
    exact this
  rw [hz] at H
  exact H
theorem wp_region_tail {id : Nat} {Q : Exit → Act → World → Prop} {C : World → Prop} {a : Act} {w : World} {l : List Oper} (n : Nat) (hm : P.follows .mixedOrders = true) (ht : tidy l.toArray = true) (hB : tailB l.toArray n = true)
    (hC : C w.drew) (h : wpK P l.toArray C (fun a' => ∀ w', C w' → wpList P l.toArray Q (l.drop n) a' w') (l.take n) a) : (Code.region id l.toArray true).wp P Q a w := by
  obtain ⟨vals, hq, hs⟩ := wpK_vals _ _ h
  refine region_core (Γ := Unit) (C := fun _ _ w => C w) n hm ht hB () hC (fun _ => vals) (fun i o hi γ L w _ _ hC' => ⟨(), fun _ _ => rfl, ?_⟩) (fun _ L w' _ hC' => hq w' hC')
  rcases hs i o hi with ⟨h1, h2⟩ | ⟨h1, h2⟩
  · exact .inl ⟨h1, h2 w hC'⟩
  · exact .inr ⟨h1, h2, hC'⟩

/-! ### One operation among them writes: ahead of it the worlds are of 'C false', behind it of 'C true' -/
def wpS (P : Program) (ops : Array Oper) (s : Nat) (C : Bool → World → Prop) (Q : Act → Prop) : Nat → List Oper → Act → Prop
  | _, [], a => Q a
  | k, o :: rest, a => ∃ v, ((Region.wanted o (yielded ops a.tmps) = true ∧ ((k = s ∧ ∀ w, C false w → Gives P o a w v (C true)) ∨ (k ≠ s ∧ ∀ b w, C b w → Gives P o a w v (C b)))) ∨
      (Region.wanted o (yielded ops a.tmps) = false ∧ k ≠ s ∧ v = undef)) ∧ wpS P ops s C Q (k + 1) rest (a.put o.dst v)
section
variable {C : Bool → World → Prop} {Qk : Act → Prop} {o : Oper} {rest : List Oper} {a : Act} {v : Value} {k s : Nat}
end
end
end Go.Proofs.Ytijgbbeplojinaa
set_option maxRecDepth 100000
namespace Go.Proofs.Ytijgbbeplojinaa
open Go.ChangeShapes Go.WideShapes Go.ChangeAt Go.RowKit
/-- n bytes. -/
def ar (n : Nat) (f : Nat → Nat) : Array Value := row n fun k => .int .u8 (f k : Nat)
section
variable {n k v : Nat} {f g : Nat → Nat}
theorem size_ar : (ar n f).size = n := size_row
theorem get_ar (h : k < n) : (ar n f)[k]? = some (.int .u8 (f k : Nat)) := get_row_lt h
theorem ar_ext (h : ∀ k, k < n → f k = g k) : ar n f = ar n g := row_ext fun k hk => by rw [h k hk]
theorem ar_list_get {j : Nat} {v : Value} (h : (ar n f).toList[j]? = some v) : j < n ∧ v = .int .u8 (f j : Nat) := by
  rw [Array.getElem?_toList] at h
  by_cases hj : j < n
  · rw [get_ar hj] at h; exact ⟨hj, (Option.some.inj h).symm⟩
  · rw [ar, get_row, if_neg hj] at h; cases h
/-- A loop over bytes: behind k rounds the first k are turned. -/
def upTo (k : Nat) (f h : Nat → Nat) : Nat → Nat := fun j => if j < k then h j else f j
theorem Blk.arRange {w : World} {b o m : Nat} {t : TypeId} (hb : Blk w b t (ar n f)) (h : o + m ≤ n) : w.rangeAt b o (ar m fun k => f (o + k)).toList := fun j v hv => by
  obtain ⟨h1, rfl⟩ := ar_list_get hv
  rw [hb.cell, get_ar (by omega)]
/-- The bytes from place o on replaced. -/
def putA (o m : Nat) (f h : Nat → Nat) : Nat → Nat := fun j => if o ≤ j ∧ j < o + m then h (j - o) else f j
theorem Blk.there {w : World} {b o m N : Nat} {t : TypeId} {F : Nat → Value} (hb : Blk w b t (row N F)) (hm : o + m ≤ N) : w.there b o m := fun j hj => by
  refine ⟨?_, hb.frozen _⟩
  rw [hb.cell, get_row_lt (by omega)]; rfl
end
/-- Of type T is a row of n bytes. -/
structure ArT (T : TypeId) (n : Nat) : Prop where
  size : (Try.prog.info? T).map (·.size) = some n
  desc : ∃ d, Try.prog.underlying T = some d ∧ d.isRow = true
  zero : ∀ w, (zeroValue T).run Try.prog w = .ok (.agg (ar n fun _ => 0)) w
section
variable {ops : Array Oper} {Q : Exit → Act → World → Prop} {a : Act} {w : World} {rest : List Oper} {dst : Option Tmp} {ty : TypeId} {pos : String} {after : Array Edge} {x y : Operand} {g o n m : Nat} {f f0 : Nat → Nat} {T t : TypeId}
theorem Blk.head (hb : Blk w g t (ar n f)) : w.rangeAt g 0 (ar n f).toList := by
  have h := hb.arRange (o := 0) (m := n) (by omega)
  rw [ar_ext (g := f) fun k _ => by rw [Nat.zero_add]] at h
  exact h
section
variable {C : World → Prop} {Qk : Act → Prop} {gd : Option (Nat × Bool)}
end
end
def eqA (n : Nat) (f g : Nat → Nat) : Bool := eqN n (fun k => f k) fun k => g k
section
variable {a : Act} {w : World} {g h n m : Nat} {f f' : Nat → Nat} {T U : TypeId}
end
end Go.Proofs.Ytijgbbeplojinaa
set_option maxRecDepth 100000
namespace Go.Proofs.Ytijgbbeplojinaa
open Go.RowKit
section
variable {P : Program} {ops : Array Oper}
/-- The operations in the order of the text; each hands on a world of the class, in which all that was there stands. -/
def wpB (P : Program) (ops : Array Oper) (C : World → Prop) (Q : Act → Prop) : List Oper → Act → Prop
  | [], a => Q a
  | o :: rest, a => ∃ v, ((Region.wanted o (yielded ops a.tmps) = true ∧ ∀ w, C w → Gives P o a w v fun w' => C w' ∧ Below w.heap.size w w') ∨ (Region.wanted o (yielded ops a.tmps) = false ∧ v = undef)) ∧ wpB P ops C Q rest (a.put o.dst v)
section
variable {C : World → Prop} {Qk : Act → Prop} {o : Oper} {rest : List Oper} {a : Act} {v : Value}
theorem wpB_nil (h : Qk a) : wpB P ops C Qk [] a := h
theorem wpB_val (hw : Region.wanted o (yielded ops a.tmps) = true) (h1 : ∀ w, C w → Gives P o a w v fun w' => C w' ∧ Below w.heap.size w w') (h2 : wpB P ops C Qk rest (a.put o.dst v)) : wpB P ops C Qk (o :: rest) a := ⟨v, .inl ⟨hw, h1⟩, h2⟩
end
theorem wpB_vals {C : World → Prop} {Qk : Act → Prop} : ∀ (l : List Oper) (a : Act), wpB P ops C Qk l a → ∃ vals : Nat → Value, Qk (lexF l vals l.length a) ∧
    ∀ i o, l[i]? = some o → ((Region.wanted o (yielded ops (lexF l vals i a).tmps) = true ∧ ∀ w, C w → Gives P o (lexF l vals i a) w (vals i) fun w' => C w' ∧ Below w.heap.size w w') ∨ (Region.wanted o (yielded ops (lexF l vals i a).tmps) = false ∧ vals i = undef))
  | [], a, h => ⟨fun _ => undef, h, fun i o hi => by simp at hi⟩
  | o :: l, a, h => by
    obtain ⟨v, h1, h2⟩ := h
    obtain ⟨vals, hq, hs⟩ := wpB_vals l _ h2
    refine ⟨fun j => match j with | 0 => v | j + 1 => vals j, ?_, fun i o' hi => ?_⟩
    · rw [List.length_cons, lexF_cons]; exact hq
    · cases i with
      | zero =>
        simp only [List.getElem?_cons_zero, Option.some.injEq] at hi
        subst hi
        exact h1
      | succ i =>
        rw [lexF_cons]
        exact hs i o' (by simpa using hi)
theorem lexF_congr {l l' : List Oper} {v v' : Nat → Value} : ∀ {i : Nat} {a : Act}, (∀ j, j < i → l[j]? = l'[j]? ∧ v j = v' j) → lexF l v i a = lexF l' v' i a
  | 0, _, _ => rfl
  | i + 1, a, h => by
    simp only [lexF, lexF_congr (i := i) (a := a) fun j hj => h j (by omega), (h i (by omega)).1, (h i (by omega)).2]
theorem gives_mono {o : Oper} {a : Act} {w : World} {v : Value} {R R' : World → Prop} (h : Gives P o a w v R) (hr : ∀ w', R w' → R' w') : Gives P o a w v R' := by
  unfold Gives at *
  generalize (execOp a.eval o).run P w = r at *
  cases r with
  | ok n w' =>
    cases n <;> simp only at h ⊢
    case value u => exact ⟨h.1, hr _ h.2⟩
    case skip => exact ⟨h.1, hr _ h.2⟩
    case enter f args => exact h.mono fun e w'' ⟨he, hR⟩ => ⟨he, hr _ hR⟩
  | halt x w' => exact h
def ptr (b : Nat) : Value := .pointer (some ⟨b, 0, none⟩)
end
end Go.Proofs.Ytijgbbeplojinaa
set_option maxRecDepth 100000
namespace Go.Proofs.Ytijgbbeplojinaa
open Go.RowKit
section
variable {P : Program} {ops : Array Oper}
theorem wp_region_new1 {id : Nat} {Q : Exit → Act → World → Prop} {C : World → Prop} {a : Act} {w : World} {l : List Oper} (n : Nat) (T : TypeId) (z : Array Value) (d1 : Tmp) {t1 : TypeId} {p1 : String} {e1 : Array Edge}
    (hl1 : l[n]? = some ⟨some d1, .alloc T, t1, p1, e1, none⟩)
    (hm : P.follows .mixedOrders = true) (ht : tidy l.toArray = true) (hB : tailB l.toArray (n + 1) = true)
    (ha : ∀ w, (Instr.alloc T true (.tuple #[])).run P w = .ok (.pointer (some ⟨w.heap.size, 0, none⟩)) (w.alloc (.cells z T)))
    (hC : C w.drew) (hCa : ∀ w, C w → C (w.alloc (.cells z T))) (hCs : ∀ w', C w' → w.heap.size ≤ w'.heap.size)
    (h : wpB P l.toArray C (fun a' => ∀ b1 w', C w' → Blk w' b1 T z → w.heap.size ≤ b1 →
      wpList P l.toArray Q (l.drop (n + 1)) (a'.put (some d1) (ptr b1)) w') (l.take n) a) : (Code.region id l.toArray true).wp P Q a w := by
  obtain ⟨vals, hq, hs⟩ := wpB_vals _ _ h
  have hln : n < l.length := (List.getElem?_eq_some_iff.1 hl1).1
  have hlen : (l.take n).length = n := by rw [List.length_take]; omega
  let V : Nat → Nat → Value := fun γ i => if i = n then ptr γ else vals i
  have hV : ∀ γ i, i < n → V γ i = vals i := fun γ i hi => by show (if _ then _ else _) = _; rw [if_neg (by omega)]
  have hfr : ∀ γ i, i ≤ n → lexF (l.take (n + 1)) (V γ) i a = lexF (l.take n) vals i a := fun γ i hi => lexF_congr fun j hj =>
    ⟨by rw [List.getElem?_take_of_lt (by omega), List.getElem?_take_of_lt (by omega)], hV γ j (by omega)⟩
  refine region_core (Γ := Nat) (C := fun γ L w' => C w' ∧ (L.getD n false = true → Blk w' γ T z ∧ w.heap.size ≤ γ)) (n + 1) hm ht hB 0
    ⟨hC, (fun h => by rw [getD_replicate_false] at h; cases h)⟩ V ?_ ?_
  · intro i o hi γ L w' hsz hr ⟨hC', g1⟩
    have hilt : i < n + 1 := by
      have := (List.getElem?_eq_some_iff.1 hi).1
      rw [List.length_take] at this; omega
    rw [List.getElem?_take_of_lt hilt] at hi
    have hun := getD_both (mem_ready.1 hr).1
    rcases Nat.lt_or_ge i n with hin | hin
    · have hset : ∀ k, k ≠ i → (L.setIfInBounds i true).getD k false = L.getD k false := fun k hk => getD_set_ne false (Ne.symm hk)
      refine ⟨γ, fun _ _ => rfl, ?_⟩
      rw [hfr γ i (by omega), hV γ i hin]
      simp only [hset n (by omega)]
      rcases hs i o (by rw [List.getElem?_take_of_lt hin]; exact hi) with ⟨h1, h2⟩ | ⟨h1, h2⟩
      · exact .inl ⟨h1, gives_mono (h2 w' hC') fun w'' ⟨h3, h4⟩ => ⟨h3, fun e => ⟨(g1 e).1.below h4 (g1 e).1.lt, (g1 e).2⟩⟩⟩
      · exact .inr ⟨h1, h2, hC', g1⟩
    · obtain rfl : i = n := by omega
      obtain rfl : _ = o := Option.some.inj (hl1.symm.trans hi)
      have hw : ∀ b : Act, (execOp b.eval ⟨some d1, .alloc T, t1, p1, e1, none⟩).run P w' = .ok (.value (.pointer (some ⟨w'.heap.size, 0, none⟩))) (w'.alloc (.cells z T)) := fun b => by
        simp only [execOp, Sem.run_bind, ha w', Result.andThen_ok, Sem.run_pure]
      refine ⟨w'.heap.size, fun j hj => ?_, .inl ⟨rfl, ?_⟩⟩
      · have hjn : j ≠ i := fun e => by subst e; rw [hun] at hj; cases hj
        simp only [V, if_neg hjn]
      · refine gives_value (w' := w'.alloc (.cells z T)) ?_ ?_
        · rw [hw]
          simp only [V, if_pos]; rfl
        · exact ⟨hCa _ hC', fun _ => ⟨Blk.new _ _ _, hCs _ hC'⟩⟩
  · intro γ L w' hall ⟨hC', g1⟩
    have h1 := hall n (by omega)
    have hl2' : (l.take (n + 1)).length = n + 1 := by rw [List.length_take]; omega
    rw [hl2']
    have hput : lexF (l.take (n + 1)) (V γ) (n + 1) a = (lexF (l.take n) vals n a).put (some d1) (ptr γ) := by
      rw [lexF, hfr γ n (Nat.le_refl n), List.getElem?_take_of_lt (by omega), hl1]
      simp only [V, if_pos, Option.bind_some]
    rw [hput]
    rw [hlen] at hq
    exact hq γ w' hC' (g1 h1).1 (g1 h1).2
end
end Go.Proofs.Ytijgbbeplojinaa
set_option maxRecDepth 100000
namespace Go.Proofs.Ytijgbbeplojinaa
open Go.ChangeShapes Go.WideShapes Go.ChangeAt Go.RowKit
section
variable {ops : Array Oper} {a : Act} {rest : List Oper} {dst : Option Tmp} {ty : TypeId} {pos : String} {after : Array Edge} {x : Operand} {g o n : Nat} {f : Nat → Nat} {T : TypeId} {C : World → Prop} {Qk : Act → Prop} {gd : Option (Nat × Bool)}
end
end Go.Proofs.Ytijgbbeplojinaa
set_option maxRecDepth 100000
namespace Go.Proofs.Ytijgbbeplojinaa
open Go.ChangeShapes Go.WideShapes Go.ChangeAt Go.RowKit
attribute [local go_sem] Gives
/-- A type of n cells, one behind the other. -/
structure RowT (T : TypeId) (n : Nat) : Prop where
  size : (Try.prog.info? T).map (·.size) = some n
  desc : ∃ d, Try.prog.underlying T = some d ∧ d.isRow = true
section
variable {ops : Array Oper} {Q : Exit → Act → World → Prop} {a : Act} {w : World} {rest : List Oper} {dst : Option Tmp} {ty : TypeId} {pos : String} {after : Array Edge} {x y : Operand} {g o n : Nat} {cs : Array Value} {T : TypeId} {C : World → Prop} {Qk : Act → Prop} {gd : Option (Nat × Bool)}
theorem run_ldR (hT : RowT T cs.size) (hb : w.rangeAt g o cs.toList) : (Instr.loadAt T (.pointer (some ⟨g, o, none⟩))).run Try.prog w = .ok (.agg cs) w := by
  obtain ⟨d, h1, h2⟩ := hT.desc
  have := run_loadAt_mid (P := Try.prog) w g o T cs.toList _ hb h1 h2 (hT.size.trans (by rw [Array.length_toList]))
  rwa [Array.toArray_toList] at this
theorem Blk.whole {t : TypeId} (h : Blk w g t cs) : w.rangeAt g 0 cs.toList := fun j v hj => by
  rw [Nat.zero_add, h.cell]; rwa [Array.getElem?_toList] at hj
theorem ldR (hT : RowT T cs.size) (hx : a.eval x = .pointer (some ⟨g, o, none⟩)) (hb : w.rangeAt g o cs.toList) (h : wpList Try.prog ops Q rest (a.put dst (.agg cs)) w) :
    wpList Try.prog ops Q (⟨dst, .load T x, ty, pos, after, none⟩ :: rest) a w := by
  obtain ⟨d, h1, h2⟩ := hT.desc
  exact step_load_mid hb h1 h2 (hT.size.trans (by rw [Array.length_toList])) hx (by rw [Array.toArray_toList]; exact h)
theorem stR {t : TypeId} {old : Array Value} (hT : RowT T cs.size) (hx : a.eval x = .pointer (some ⟨g, 0, none⟩)) (hy : a.eval y = .agg cs) (hb : Blk w g t old) (hs : old.size = cs.size) (h1 : cs.all (·.oneCell') = true) (h : wpList Try.prog ops Q rest (a.put dst undef) (w.setRow g cs)) :
    wpList Try.prog ops Q (⟨dst, .store T x y, ty, pos, after, none⟩ :: rest) a w :=
  step_store_row hb hT.size hs h1 hx hy h
theorem kldR (hT : RowT T cs.size) (hwt : Region.wanted ⟨dst, .load T x, ty, pos, after, gd⟩ (yielded ops a.tmps) = true) (hx : a.eval x = .pointer (some ⟨g, o, none⟩)) (hb : ∀ w, C w → w.rangeAt g o cs.toList) (h : wpK Try.prog ops C Qk rest (a.put dst (.agg cs))) :
    wpK Try.prog ops C Qk (⟨dst, .load T x, ty, pos, after, gd⟩ :: rest) a :=
  wpK_val hwt (fun w hw => gives_value (w' := w) (by simp only [execOp, hx, Sem.run_bind, run_ldR hT (hb w hw), Result.andThen_ok, Sem.run_pure]) hw) h
theorem bldR (hT : RowT T cs.size) (hwt : Region.wanted ⟨dst, .load T x, ty, pos, after, gd⟩ (yielded ops a.tmps) = true) (hx : a.eval x = .pointer (some ⟨g, o, none⟩)) (hb : ∀ w, C w → w.rangeAt g o cs.toList) (h : wpB Try.prog ops C Qk rest (a.put dst (.agg cs))) :
    wpB Try.prog ops C Qk (⟨dst, .load T x, ty, pos, after, gd⟩ :: rest) a :=
  wpB_val hwt (fun w hw => gives_value (w' := w) (by simp only [execOp, hx, Sem.run_bind, run_ldR hT (hb w hw), Result.andThen_ok, Sem.run_pure]) ⟨hw, Below.refl _ _⟩) h
end
end Go.Proofs.Ytijgbbeplojinaa
set_option maxRecDepth 100000
namespace Go.Proofs.Ytijgbbeplojinaa
section
variable {P : Program} {ops : Array Oper}
end
end Go.Proofs.Ytijgbbeplojinaa
set_option maxRecDepth 100000
namespace Go.Proofs.Ytijgbbeplojinaa
open Go.ChangeShapes Go.WideShapes Go.ChangeAt Go.RowKit
attribute [local go_sem] Gives
namespace GeM
theorem ret_i {k : IntKind} {a b : Int} (h : a = b) : Ending.returned (.int k a) = .returned (.int k b) := by rw [h]
/-- A geometry as it is handed down. -/
abbrev gv (a b : Int) : Value := .agg #[.int .i64 a, .int .i64 b]
theorem below_al {w : World} (o : Obj) : Below w.heap.size w (w.alloc o) := (Below.refl _ _).alloc (Nat.le_refl _) _
set_option maxHeartbeats 400000 in
theorem check_any (a b : Int) (w : World) : Calls Try.prog 105 #[gv a b] w fun e w' => e = .returned (.int .i64 (if Good a b then 0 else 2)) ∧ Below w.heap.size w w' := by
  obtain ⟨c, hc⟩ : ∃ c : Int, c = if Good a b then 0 else 2 := ⟨_, rfl⟩
  rw [← hc]
  have HC := hid hc
  clear hc
  unfold gv
  go_enter Try.func105, Try.ntmps105
  go_wp2_with fail
  all_goals
    go_ret
    refine ⟨ret_i ?_, below_al _⟩
    have hc := HC.out
    clear HC
    simp only [Good] at hc
    first | (simp_all; done) | (simp_all; omega) | omega
/-- What a function of the program tells of a geometry. -/
abbrev Tells (f : FuncId) (n : Int → Int → Nat) : Prop := ∀ (a b : Int) (w : World), Calls Try.prog f #[gv a b] w fun e w' => e = .returned (.int .i64 (n a b)) ∧ Below w.heap.size w w'
abbrev tyG : TypeId := 23
theorem tGe (a b : Int) : RowT tyG (#[Value.int .i64 a, .int .i64 b] : Array Value).size := ⟨by kernel_rfl, _, Try.underlying23, rfl⟩
/-- In w block g is a geometry; nothing from before base has been turned. -/
structure At (B : World) (g : Nat) (a b : Int) (w : World) : Prop where
  blk : Blk w g tyG #[.int .i64 a, .int .i64 b]
  bel : Below B.heap.size B w
theorem At.new (B : World) (a b : Int) : At B B.heap.size a b (B.alloc (.cells #[.int .i64 a, .int .i64 b] tyG)) := ⟨Blk.new _ _ _, below_al _⟩
theorem At.on {B : World} {g : Nat} {a b : Int} {w w' : World} (h : At B g a b w) (hb : Below w.heap.size w w') : At B g a b w' := ⟨h.blk.below hb h.blk.lt, h.bel.trans (hb.mono h.bel.size)⟩
theorem At.c0 {B : World} {g : Nat} {a b : Int} {w : World} (h : At B g a b w) : w.cell? ⟨g, 0, none⟩ = some (.int .i64 a) := h.blk.cell 0
theorem At.c1 {B : World} {g : Nat} {a b : Int} {w : World} (h : At B g a b w) : w.cell? ⟨g, 1, none⟩ = some (.int .i64 b) := h.blk.cell 1
theorem At.drew {B : World} {g : Nat} {a b : Int} {w : World} (h : At B g a b w) : At B g a b w.drew := ⟨h.blk.drew, h.bel.drew⟩
set_option maxHeartbeats 400000 in
theorem leaves_any : Tells 98 (L lv) := fun a b w => by
  by_cases hg : Good a b
  · obtain ⟨m, r, rfl, rfl, h1, h2, h3, h4⟩ := good_nat hg
    have hl := lv_bd hg
    rw [L_good hg]
    obtain ⟨n, hn⟩ : ∃ n, n = lv m r := ⟨_, rfl⟩
    have HN := hid (show (m : Int) * r = (n : Nat) by rw [hn]; unfold lv; push_cast; rfl)
    rw [← hn] at hl ⊢
    clear h1 h2 h3 h4
    unfold gv
    go_enter Try.func98, Try.ntmps98
    go_wp2_with fail
    refine (check_any _ _ _).mono ?_
    rw [if_pos hg]
    rintro e w1 ⟨rfl, h1⟩
    have A1 := hid ((At.new w m r).on h1)
    have q0 := A1.out.c0
    have q1 := A1.out.c1
    clear h1
    go_wp2_with fail
    rw [HN.out]
    go_wp2_with fail
    go_ret
    exact ⟨ret_i (IntWalk.wrap64_in _ (by omega)), A1.out.bel⟩
  · rw [L_bad hg]
    unfold gv
    go_enter Try.func98, Try.ntmps98
    go_wp2_with fail
    refine (check_any _ _ _).mono ?_
    rw [if_neg hg]
    rintro e w1 ⟨rfl, h1⟩
    have A1 := hid ((At.new w a b).on h1)
    clear h1
    go_wp2_with fail
    go_ret
    exact ⟨rfl, A1.out.bel⟩
end GeM
end Go.Proofs.Ytijgbbeplojinaa
namespace Go.Proofs
open Go.Shelf
def Try.lays128_ren : Go.Shelf.Ren := ⟨fun | 128 => 128 | n => n, fun | 51 => 188 | 3 => 3 | 4 => 4 | 46 => 185 | 5 => 5 | 9 => 9 | n => n, fun | n => n⟩
def Try.lays125_ren : Go.Shelf.Ren := ⟨fun | 125 => 125 | 128 => 128 | 129 => 129 | n => n, fun | 46 => 185 | 3 => 3 | 51 => 188 | 53 => 60 | 4 => 4 | 5 => 5 | 9 => 9 | n => n, fun | n => n⟩
theorem Try.lays125 : Go.Proofs.Lays.n125 Try.prog Try.lays125_ren := {
  mixed := by kernel_rfl
  f125 := Try.func125.trans (congrArg some (by kernel_rfl))
  f128 := Try.func128.trans (congrArg some (by kernel_rfl))
  f129 := Try.func129.trans (congrArg some (by kernel_rfl))
  t3 := Try.underlying3
  a3 := Try.isAgg3
  z3 := Try.sizeOf3
  v3 := Try.zeroValue3
  t4 := Try.underlying4
  a4 := Try.isAgg4
  z4 := Try.sizeOf4
  v4 := Try.zeroValue4
  t5 := Try.underlying5
  a5 := Try.isAgg5
  z5 := Try.sizeOf5
  v5 := Try.zeroValue5
  t9 := Try.underlying9
  a9 := Try.isAgg9
  z9 := Try.sizeOf9
  v9 := Try.zeroValue9
  t46 := Try.underlying185
  a46 := Try.isAgg185
  z46 := Try.sizeOf185
  v46 := Try.zeroValue185
  t51 := Try.underlying188
  a51 := Try.isAgg188
  z51 := Try.sizeOf188
  v51 := Try.zeroValue188
  t53 := Try.underlying60
  a53 := Try.isAgg60
  z53 := Try.sizeOf60
  v53 := Try.zeroValue60 }
theorem Try.bits_Len (x : Int) (w : World) (h0 : 0 ≤ x) (h1 : x ≤ 18446744073709551615) :
    Calls Try.prog 125 #[.int .u64 x] w fun e w' => e = .returned (.int .i64 (Lib.bitLen x.toNat)) ∧ w' = w := Any.bits_Len Try.lays125 x w h0 h1
def Try.lays129_ren : Go.Shelf.Ren := ⟨fun | 129 => 129 | n => n, fun | 53 => 60 | 3 => 3 | 4 => 4 | 46 => 185 | 5 => 5 | 9 => 9 | n => n, fun | n => n⟩
end Go.Proofs
set_option maxRecDepth 100000
namespace Go.Proofs.Ytijgbbeplojinaa
open Go.ChangeShapes Go.WideShapes Go.ChangeAt Go.RowKit
attribute [local go_sem] Gives
namespace GeM
theorem len_ht {m r : Nat} (hg : Good m r) : Go.Lib.bitLen (lv m r - 1) = ht m r := by
  have hl := lv_bd hg
  obtain ⟨a, b, c⟩ := Go.Lib.bitLenAux_bounds 64 (lv m r - 1) (by omega) (by omega)
  refine ht_of hg ?_ fun j hj => ?_
  · show lv m r ≤ 2 ^ Go.Lib.bitLenAux 64 (lv m r - 1)
    omega
  · have hj' : j < Go.Lib.bitLenAux 64 (lv m r - 1) := hj
    have := Nat.pow_le_pow_right (show 0 < 2 by omega) (show j ≤ Go.Lib.bitLenAux 64 (lv m r - 1) - 1 by omega)
    omega
set_option maxHeartbeats 400000 in
theorem height_any : Tells 121 (L ht) := fun a b w => by
  by_cases hg : Good a b
  · obtain ⟨m, r, rfl, rfl, k1, k2, k3, k4⟩ := good_nat hg
    rw [L_good hg]
    unfold gv
    go_enter Try.func121, Try.ntmps121
    go_wp2_with fail
    refine (check_any _ _ _).mono ?_
    rw [if_pos hg]
    rintro e w1 ⟨rfl, h1⟩
    have A1 := hid ((At.new w m r).on h1)
    have q0 := A1.out.c0
    have q1 := A1.out.c1
    clear h1
    have hl := lv_bd hg
    have HT := hid (len_ht hg)
    go_wp2_with ((with_reducible apply ldR (cs := #[Value.int .i64 m, .int .i64 r]) (tGe _ _)); rfl; exact A1.out.blk.whole)
    refine (leaves_any _ _ _).mono ?_
    rintro e w2 ⟨rfl, h2⟩
    rw [L_good hg]
    have A2 := hid (A1.out.on h2)
    clear h2 A1 q0 q1
    have e1 : ((lv m r : Nat) : Int) - 1 = ((lv m r - 1 : Nat) : Int) := by omega
    go_wp2_with fail
    refine (Try.bits_Len _ _ (by omega) (by omega)).mono ?_
    rintro e w3 ⟨rfl, rfl⟩
    go_wp2_with fail
    go_ret
    exact ⟨ret_i (by rw [HT.out]), A2.out.bel⟩
  · rw [L_bad hg]
    unfold gv
    go_enter Try.func121, Try.ntmps121
    go_wp2_with fail
    refine (check_any _ _ _).mono ?_
    rw [if_neg hg]
    rintro e w1 ⟨rfl, h1⟩
    have A1 := hid ((At.new w a b).on h1)
    clear h1
    go_wp2_with fail
    go_ret
    exact ⟨rfl, A1.out.bel⟩
set_option maxHeartbeats 400000 in
theorem nodes_any : Tells 107 (L nd) := fun a b w => by
  have hh : L ht a b ≤ 12 ∧ 2 ^ L ht a b = L nd a b + 1 := by
    by_cases hg : Good a b
    · obtain ⟨m, r, rfl, rfl, k1, k2, k3, k4⟩ := good_nat hg
      rw [L_good hg, L_good hg]
      exact ⟨ht_bd hg, (nd_eq hg).symm⟩
    · rw [L_bad hg, L_bad hg]
      exact ⟨by omega, rfl⟩
  obtain ⟨h, hh'⟩ : ∃ h, h = L ht a b := ⟨_, rfl⟩
  have HH := hid hh'
  rw [← hh'] at hh
  obtain ⟨h1, h2⟩ := hh
  have H2 := hid h2
  clear hh' h2
  unfold gv
  go_enter Try.func107, Try.ntmps107
  go_wp2_with ((with_reducible apply ldR (cs := #[Value.int .i64 a, .int .i64 b]) (tGe _ _)); rfl; exact (hid (At.new w a b)).out.blk.whole)
  refine (height_any _ _ _).mono ?_
  rintro e w1 ⟨rfl, h1⟩
  have A1 := hid ((At.new w a b).on h1)
  rw [← HH.out]
  clear h1
  go_wp2_with fail
  all_goals go_ret
  all_goals refine ⟨ret_i ?_, A1.out.bel⟩
  all_goals have h2 := H2.out
  have e2 : ((2 : Int) ^ h) = ((2 ^ h : Nat) : Int) := by push_cast; rfl
  have e3 : 2 ^ h ≤ 2 ^ 12 := Nat.pow_le_pow_right (by omega) h1
  rw [IntWalk.wrap64_in (2 ^ h) (by rw [e2]; omega), IntWalk.wrap64_in _ (by rw [e2]; omega), e2]
  omega
set_option maxHeartbeats 400000 in
theorem capacity_any : Tells 120 (L cp) := fun a b w => by
  by_cases hg : Good a b
  · obtain ⟨m, r, rfl, rfl, k1, k2, k3, k4⟩ := good_nat hg
    rw [L_good hg]
    unfold gv
    go_enter Try.func120, Try.ntmps120
    go_wp2_with fail
    refine (check_any _ _ _).mono ?_
    rw [if_pos hg]
    rintro e w1 ⟨rfl, h1⟩
    have A1 := hid ((At.new w m r).on h1)
    have q0 := A1.out.c0
    clear h1
    go_wp2_with fail
    have hm : (max 6 (m : Int)) = ((mx m : Nat) : Int) := by unfold mx; split <;> omega
    rw [hm]
    have B1 := hid (mx_bd hg)
    have B2 := hid (ht_bd hg)
    have B3 := hid (nd_bd hg)
    have B4 := hid (mh_bd hg)
    obtain ⟨x, hx⟩ : ∃ x, x = mx m * ht m r := ⟨_, rfl⟩
    obtain ⟨y, hy⟩ : ∃ y, y = (if nd m r < x then nd m r else x) := ⟨_, rfl⟩
    have X1 := hid hx
    have Y1 := hid hy
    have hq : IntKind.i64.wrap (((mx m : Nat) : Int) * ((ht m r : Nat) : Int)) = ((x : Nat) : Int) := by rw [hx, Int.natCast_mul]; exact IntWalk.i64_in _ (by have := B4.out; rw [← Int.natCast_mul]; omega)
    have hn : min (x : Int) ((nd m r : Nat) : Int) = (y : Nat) := by rw [hy]; split <;> omega
    have yb : y ≤ 768 := by have := B4.out; rw [hy]; split <;> omega
    have ha : IntKind.i64.wrap (((mx m : Nat) : Int) + (y : Int)) = ((mx m + y : Nat) : Int) := by rw [IntWalk.i64_in _ (by have := B1.out; omega)]; omega
    have hb : IntKind.i64.wrap (((mx m + y : Nat) : Int) + 8) = ((mx m + y + 8 : Nat) : Int) := by rw [IntWalk.i64_in _ (by have := B1.out; omega)]; omega
    have HQ := hid hq
    have HN := hid hn
    have HA := hid ha
    have HB := hid hb
    have YB := hid yb
    clear hq hn ha hb hx hy yb
    refine wp_region_tail (C := At w w.heap.size m r) 10 (by kernel_rfl) (by kernel_rfl) (by kernel_rfl) A1.out.drew ?_
    simp only [List.take_succ_cons, List.take_zero, List.drop_succ_cons, List.drop_zero]
    apply wpK_val
    · rfl
    · intro w' hw'
      go_simp
      first | exact rfl | exact ⟨rfl, hw'⟩
    simp only [Act.put, List.setIfInBounds_toArray, List.set_cons_succ, List.set_cons_zero]
    apply wpK_val
    · rfl
    · intro w' hw'
      go_simp
      first | exact rfl | exact ⟨rfl, hw'⟩
    simp only [Act.put, List.setIfInBounds_toArray, List.set_cons_succ, List.set_cons_zero]
    apply kldR (tGe _ _)
    · rfl
    · rfl
    · exact fun w' hw' => hw'.blk.whole
    simp only [Act.put, List.setIfInBounds_toArray, List.set_cons_succ, List.set_cons_zero]
    apply wpK_val
    · rfl
    · intro w' hw'
      go_simp
      exact (height_any _ _ w').mono fun e w5 h => ⟨h.1, hw'.on h.2⟩
    simp only [Act.put, List.setIfInBounds_toArray, List.set_cons_succ, List.set_cons_zero]
    rw [L_good hg]
    apply wpK_val
    · rfl
    · intro w' hw'
      have h1 : _ = _ := HQ.out
      go_simp
      first | exact rfl | exact ⟨rfl, hw'⟩
    simp only [Act.put, List.setIfInBounds_toArray, List.set_cons_succ, List.set_cons_zero]
    apply kldR (tGe _ _)
    · rfl
    · rfl
    · exact fun w' hw' => hw'.blk.whole
    simp only [Act.put, List.setIfInBounds_toArray, List.set_cons_succ, List.set_cons_zero]
    apply wpK_val
    · rfl
    · intro w' hw'
      go_simp
      exact (nodes_any _ _ w').mono fun e w5 h => ⟨h.1, hw'.on h.2⟩
    simp only [Act.put, List.setIfInBounds_toArray, List.set_cons_succ, List.set_cons_zero]
    rw [L_good hg]
    apply wpK_val
    · rfl
    · intro w' hw'
      have h1 : _ = _ := HN.out
      go_simp
      first | exact rfl | exact ⟨rfl, hw'⟩
    simp only [Act.put, List.setIfInBounds_toArray, List.set_cons_succ, List.set_cons_zero]
    apply wpK_val
    · rfl
    · intro w' hw'
      have h1 : _ = _ := HA.out
      go_simp
      first | exact rfl | exact ⟨rfl, hw'⟩
    simp only [Act.put, List.setIfInBounds_toArray, List.set_cons_succ, List.set_cons_zero]
    apply wpK_val
    · rfl
    · intro w' hw'
      have h1 : _ = _ := HB.out
      go_simp
      first | exact rfl | exact ⟨rfl, hw'⟩
    simp only [Act.put, List.setIfInBounds_toArray, List.set_cons_succ, List.set_cons_zero]
    refine wpK_nil fun w5 hw5 => ?_
    have A5 := hid hw5
    clear hw5
    go_wp2_with fail
    go_ret
    exact ⟨ret_i (by rw [cp, ← X1.out, ← Y1.out, IntWalk.i64_in _ (by have := YB.out; have := B1.out; omega)]; omega), A5.out.bel⟩
  · rw [L_bad hg]
    unfold gv
    go_enter Try.func120, Try.ntmps120
    go_wp2_with fail
    refine (check_any _ _ _).mono ?_
    rw [if_neg hg]
    rintro e w1 ⟨rfl, h1⟩
    have A1 := hid ((At.new w a b).on h1)
    clear h1
    go_wp2_with fail
    go_ret
    exact ⟨rfl, A1.out.bel⟩
set_option maxHeartbeats 400000 in
theorem half_any : Tells 106 (L hf) := fun a b w => by
  by_cases hg : Good a b
  · obtain ⟨m, r, rfl, rfl, k1, k2, k3, k4⟩ := good_nat hg
    rw [L_good hg]
    unfold gv
    go_enter Try.func106, Try.ntmps106
    go_wp2_with fail
    refine (check_any _ _ _).mono ?_
    rw [if_pos hg]
    rintro e w1 ⟨rfl, h1⟩
    have A1 := hid ((At.new w m r).on h1)
    clear h1
    go_wp2_with ((with_reducible apply ldR (cs := #[Value.int .i64 m, .int .i64 r]) (tGe _ _)); rfl; exact A1.out.blk.whole)
    refine (capacity_any _ _ _).mono ?_
    rw [L_good hg]
    rintro e w2 ⟨rfl, h2⟩
    have A2 := hid (A1.out.on h2)
    have hc := cp_bd hg
    clear h2 A1
    go_wp2_with fail
    go_ret
    exact ⟨ret_i (by unfold hf; omega), A2.out.bel⟩
  · rw [L_bad hg]
    unfold gv
    go_enter Try.func106, Try.ntmps106
    go_wp2_with fail
    refine (check_any _ _ _).mono ?_
    rw [if_neg hg]
    rintro e w1 ⟨rfl, h1⟩
    have A1 := hid ((At.new w a b).on h1)
    clear h1
    go_wp2_with fail
    go_ret
    exact ⟨rfl, A1.out.bel⟩
theorem lowest_any (k : Int) (w : World) : Calls Try.prog 100 #[.int .i64 k] w fun e w' => e = .returned (.int .i64 (lw k)) ∧ w = w' := by
  unfold lw
  go_enter Try.func100, Try.ntmps100
  go_wp2_with fail
  all_goals go_ret
  all_goals exact ⟨ret_i (by simp_all), rfl⟩
end GeM
end Go.Proofs.Ytijgbbeplojinaa
set_option maxRecDepth 100000
namespace Go.Proofs.Ytijgbbeplojinaa
open Go.ChangeShapes Go.WideShapes Go.ChangeAt Go.RowKit
attribute [local go_sem] Gives
namespace GeM
abbrev tyS : TypeId := 170
abbrev tyZ : TypeId := 177
theorem tZ (a b c d e : Value) : RowT tyZ (#[a, b, c, d, e] : Array Value).size := ⟨by kernel_rfl, _, Try.underlying177, rfl⟩
theorem tSt (a b c d e f : Value) : RowT tyS (#[a, b, c, d, e, f] : Array Value).size := ⟨by kernel_rfl, _, Try.underlying170, rfl⟩
theorem run_indexI {T : TypeId} {n k : Nat} {cs : Array Value} {v : Value} (hT : Try.prog.underlying T = some (.array n 3)) (hk : k < n) (hs : cs[k]? = some v) (w : World) : (Instr.index T (.agg cs) (.int .i64 k)).run Try.prog w = .ok v w := by
  have h1 : (0 : Int) ≤ (k : Int) ∧ (k : Int) < n := by omega
  have hz : (Try.prog.info? 3).map (·.size) = some 1 := by kernel_rfl
  obtain ⟨hk2, hv⟩ := Array.getElem?_eq_some_iff.1 hs
  simp [Instr.index, run_underlying hT, asIntOf, h1, go_sem]
  rw [if_pos hk, hs]
  rfl
section
variable {ops : Array Oper} {Q : Exit → Act → World → Prop} {a : Act} {w : World} {rest : List Oper} {dst : Option Tmp} {ty : TypeId} {pos : String} {after : Array Edge} {x y : Operand}
theorem ixI {T : TypeId} {n k : Nat} {cs : Array Value} {v : Value} (hT : Try.prog.underlying T = some (.array n 3)) (hk : k < n) (hx : a.eval x = .agg cs) (hy : a.eval y = .int .i64 k) (hs : cs[k]? = some v) (h : wpList Try.prog ops Q rest (a.put dst v) w) :
    wpList Try.prog ops Q (⟨dst, .index T x y, ty, pos, after, none⟩ :: rest) a w := by
  refine wpList_plain rfl fun K hK => ?_
  unfold Oper.wp execOp
  simp only [hx, hy, Sem.run_bind, run_indexI hT hk hs w, Result.andThen_ok, Sem.run_pure]
  exact hK _ _ h
end
theorem one5 (a b c d e : Int) : (#[Value.int .i64 a, .int .i64 b, .int .i64 c, .int .i64 d, .int .i64 e] : Array Value).all (·.oneCell') = true := by simp [Value.oneCell']
theorem one6 (a b c d e f : Int) : (#[Value.int .i64 a, .int .i64 b, .int .i64 c, .int .i64 d, .int .i64 e, .int .i64 f] : Array Value).all (·.oneCell') = true := by simp [Value.oneCell']
theorem At.re {B : World} {g : Nat} {a b : Int} {w : World} (h : At B g a b w) : At w g a b w := ⟨h.blk, Below.refl _ _⟩
/-- The first places as they are handed on. -/
def sv (a b : Int) : Array Value := #[.int .i64 0, .int .i64 (L (st · · 1) a b : Nat), .int .i64 (L (st · · 2) a b : Nat), .int .i64 (L (st · · 3) a b : Nat), .int .i64 (L (st · · 4) a b : Nat), .int .i64 (L (st · · 5) a b : Nat)]
theorem sv_bad {a b : Int} (hg : ¬ Good a b) : sv a b = #[.int .i64 0, .int .i64 0, .int .i64 0, .int .i64 0, .int .i64 0, .int .i64 0] := by
  unfold sv
  simp [L_bad hg]
/-- The first places of the first k regions behind the first. -/
def pr (m r k : Nat) : Array Value := #[.int .i64 0, .int .i64 0, .int .i64 (if 2 ≤ k then 8 else 0 : Nat), .int .i64 (if 3 ≤ k then 8 + 2 * hf m r else 0 : Nat), .int .i64 (if 4 ≤ k then 8 + 2 * hf m r + nd m r else 0 : Nat), .int .i64 (if 5 ≤ k then 8 + 2 * hf m r + nd m r + r else 0 : Nat)]
theorem sv_good {m r : Nat} (hg : Good m r) : sv m r = pr m r 5 := by
  unfold sv pr
  simp only [L_good hg]
  rfl
set_option maxHeartbeats 800000 in
theorem of_any (a b : Int) (w : World) : Calls Try.prog 99 #[gv a b] w fun e w' => e = .returned (.agg (sv a b)) ∧ Below w.heap.size w w' := by
  by_cases hg : Good a b
  · obtain ⟨m, r, rfl, rfl, k1, k2, k3, k4⟩ := good_nat hg
    unfold gv
    go_enter Try.func99, Try.ntmps99
    go_wp2_with fail
    refine (check_any _ _ _).mono ?_
    rw [if_pos hg]
    rintro e w1 ⟨rfl, h1⟩
    have A1 := hid (((At.new w m r).on (below_al _)).on h1)
    have R1 := hid (show Blk w1 (w.heap.size + 1) tyS #[.int .i64 0, .int .i64 0, .int .i64 0, .int .i64 0, .int .i64 0, .int .i64 0] from (Blk.top (w := w.alloc (.cells #[.int .i64 m, .int .i64 r] tyG)) rfl (by simp)).below h1 (by simp))
    clear h1
    go_wp2_with fail
    have B3 := hid (nd_bd hg)
    have B4 := hid (hf_bd hg)
    refine wp_region_new1 (C := At w1 w.heap.size m r) 8 tyZ #[.int .i64 0, .int .i64 0, .int .i64 0, .int .i64 0, .int .i64 0] 3 rfl (by kernel_rfl) (by kernel_rfl) (by kernel_rfl) (fun w => by rfl) A1.out.re.drew (fun w' hw' => hw'.on (below_al _)) (fun w' hw' => hw'.bel.size) ?_
    simp only [List.take_succ_cons, List.take_zero, List.drop_succ_cons, List.drop_zero]
    apply bldR (tGe _ _)
    · rfl
    · rfl
    · exact fun w' hw' => hw'.blk.whole
    simp only [Act.put, List.setIfInBounds_toArray, List.set_cons_succ, List.set_cons_zero]
    apply wpB_val
    · rfl
    · intro w' hw'
      go_simp
      exact (half_any _ _ w').mono fun e w5 h => ⟨h.1, hw'.on h.2, h.2⟩
    simp only [Act.put, List.setIfInBounds_toArray, List.set_cons_succ, List.set_cons_zero]
    rw [L_good hg]
    apply wpB_val
    · rfl
    · intro w' hw'
      have hbl := Below.refl w'.heap.size w'
      have h1 : IntKind.i64.wrap (2 * ((hf m r : Nat) : Int)) = ((2 * hf m r : Nat) : Int) := by rw [IntWalk.i64_in _ (by have := B4.out; omega)]; omega
      go_simp
      first | exact rfl | exact ⟨rfl, hbl⟩ | exact ⟨rfl, hw', hbl⟩
    simp only [Act.put, List.setIfInBounds_toArray, List.set_cons_succ, List.set_cons_zero]
    apply bldR (tGe _ _)
    · rfl
    · rfl
    · exact fun w' hw' => hw'.blk.whole
    simp only [Act.put, List.setIfInBounds_toArray, List.set_cons_succ, List.set_cons_zero]
    apply wpB_val
    · rfl
    · intro w' hw'
      go_simp
      exact (nodes_any _ _ w').mono fun e w5 h => ⟨h.1, hw'.on h.2, h.2⟩
    simp only [Act.put, List.setIfInBounds_toArray, List.set_cons_succ, List.set_cons_zero]
    rw [L_good hg]
    apply wpB_val
    · rfl
    · intro w' hw'
      have hbl := Below.refl w'.heap.size w'
      go_simp
      first | exact rfl | exact ⟨rfl, hbl⟩ | exact ⟨rfl, hw', hbl⟩
    simp only [Act.put, List.setIfInBounds_toArray, List.set_cons_succ, List.set_cons_zero]
    apply wpB_val
    · rfl
    · intro w' hw'
      have hbl := Below.refl w'.heap.size w'
      have h1 : _ = _ := hw'.c1
      go_simp
      first | exact rfl | exact ⟨rfl, hbl⟩ | exact ⟨rfl, hw', hbl⟩
    simp only [Act.put, List.setIfInBounds_toArray, List.set_cons_succ, List.set_cons_zero]
    apply wpB_val
    · rfl
    · intro w' hw'
      have hbl := Below.refl w'.heap.size w'
      go_simp
      first | exact rfl | exact ⟨rfl, hbl⟩ | exact ⟨rfl, hw', hbl⟩
    simp only [Act.put, List.setIfInBounds_toArray, List.set_cons_succ, List.set_cons_zero]
    refine wpB_nil fun z w5 hw5 z5 hz => ?_
    have R5 := hid (R1.out.below hw5.bel R1.out.lt)
    have B5 := hid (A1.out.bel.trans (hw5.bel.mono A1.out.bel.size))
    have Z5 := hid z5
    have HZ := hid (show w.heap.size + 1 ≠ z by have := R1.out.lt; omega)
    have HZ2 := hid (show w.heap.size ≤ z by have := R1.out.lt; omega)
    clear hw5 A1 R1 z5 hz
    unfold ptr
    apply stR (tZ _ _ _ _ _)
    · rfl
    · rfl
    · exact Z5.out
    · rfl
    · exact one5 _ _ _ _ _
    generalize hw6 : World.setRow _ _ _ = w6
    have Z6 := hid (show Blk w6 z tyZ #[.int .i64 0, .int .i64 8, .int .i64 (2 * (hf m r : Nat)), .int .i64 (nd m r : Nat), .int .i64 r] by rw [← hw6]; exact Z5.out.setRow_same _)
    have R6 := hid (show Blk w6 (w.heap.size + 1) tyS _ by rw [← hw6]; exact R5.out.setRow_other HZ.out.symm _)
    have B6 := hid (show Below w.heap.size w w6 by rw [← hw6]; exact below_setRow B5.out HZ2.out _)
    clear hw6 Z5 R5 B5 HZ HZ2
    obtain ⟨z2, hz2⟩ : ∃ z2, z2 = w6.heap.size := ⟨_, rfl⟩
    go_wp2_with ((with_reducible apply ldR (tZ _ _ _ _ _)); rfl; exact (Z6.out.alloc _).whole)
    generalize hw7 : World.alloc w6 _ = w7
    have S7 := hid (show Blk w7 z2 tyS (pr m r 0) by rw [← hw7, hz2]; exact Blk.new _ _ _)
    have R7 := hid (show Blk w7 (w.heap.size + 1) tyS _ by rw [← hw7]; exact R6.out.alloc _)
    have B7 := hid (show Below w.heap.size w w7 by rw [← hw7]; exact B6.out.alloc B6.out.size _)
    have HZ := hid (show z2 ≠ w.heap.size + 1 by have := R6.out.lt; omega)
    have HZ2 := hid (show w.heap.size ≤ z2 by have := B6.out.size; omega)
    rw [← hz2]
    clear hw7 Z6 R6 B6 hz2
    go_loopw [20] (fun u wr => ∃ k : Nat, u = .int .i64 k ∧ k ≤ 5 ∧ Hid (Blk wr z2 tyS (pr m r k)) ∧ Hid (Blk wr (w.heap.size + 1) tyS #[.int .i64 0, .int .i64 0, .int .i64 0, .int .i64 0, .int .i64 0, .int .i64 0]) ∧ Hid (Below w.heap.size w wr)) (fun u _ => 5 - (intOf u).toNat)
    case atStart => exact ⟨0, rfl, by omega, S7, R7, B7⟩
    case round =>
      obtain ⟨k, rfl, hk, HS, HR, HB⟩ := hrel
      clear S7 R7 B7
      have hk' : k = 0 ∨ k = 1 ∨ k = 2 ∨ k = 3 ∨ k = 4 ∨ k = 5 := by omega
      rcases hk' with rfl | rfl | rfl | rfl | rfl | rfl
      · have q1 : wr.cell? ⟨z2, 0, none⟩ = some (.int .i64 0) := HS.out.cell 0
        have q2 : wr.cell? ⟨z2, 1, none⟩ = some (.int .i64 0) := HS.out.cell 1
        have q3 := HS.out.frozen 1
        have b3 := B3.out
        have b4 := B4.out
        go_wp2_with ((with_reducible apply ixI (k := 0) Try.underlying177); decide; rfl; rfl; rfl)
        go_roundw
        case rel =>
          refine ⟨1, by go_num, by omega, hid ?_, hid (HR.out.setCell_other (p := ⟨z2, 1, none⟩) HZ.out _), hid (HB.out.setCell HZ2.out _)⟩
          have h := HS.out.setCell_same 1 (.int .i64 0)
          simpa [pr] using h
        case measure => simp [intOf]
      · have q1 : wr.cell? ⟨z2, 1, none⟩ = some (.int .i64 0) := HS.out.cell 1
        have q2 : wr.cell? ⟨z2, 2, none⟩ = some (.int .i64 0) := HS.out.cell 2
        have q3 := HS.out.frozen 2
        have b3 := B3.out
        have b4 := B4.out
        go_wp2_with ((with_reducible apply ixI (k := 1) Try.underlying177); decide; rfl; rfl; rfl)
        go_roundw
        case rel =>
          refine ⟨2, by go_num, by omega, hid ?_, hid (HR.out.setCell_other (p := ⟨z2, 2, none⟩) HZ.out _), hid (HB.out.setCell HZ2.out _)⟩
          have h := HS.out.setCell_same 2 (.int .i64 8)
          simpa [pr] using h
        case measure => simp [intOf]
      · have q1 : wr.cell? ⟨z2, 2, none⟩ = some (.int .i64 8) := HS.out.cell 2
        have q2 : wr.cell? ⟨z2, 3, none⟩ = some (.int .i64 0) := HS.out.cell 3
        have q3 := HS.out.frozen 3
        have b3 := B3.out
        have b4 := B4.out
        go_wp2_with ((with_reducible apply ixI (k := 2) Try.underlying177); decide; rfl; rfl; rfl)
        go_roundw
        case rel =>
          refine ⟨3, by go_num, by omega, hid ?_, hid (HR.out.setCell_other (p := ⟨z2, 3, none⟩) HZ.out _), hid (HB.out.setCell HZ2.out _)⟩
          have h := HS.out.setCell_same 3 (.int .i64 (8 + 2 * (hf m r : Nat)))
          simpa [pr] using h
        case measure => simp [intOf]
      · have q1 : wr.cell? ⟨z2, 3, none⟩ = some (.int .i64 (8 + 2 * (hf m r : Nat))) := HS.out.cell 3
        have q2 : wr.cell? ⟨z2, 4, none⟩ = some (.int .i64 0) := HS.out.cell 4
        have q3 := HS.out.frozen 4
        have b3 := B3.out
        have b4 := B4.out
        go_wp2_with ((with_reducible apply ixI (k := 3) Try.underlying177); decide; rfl; rfl; rfl)
        go_roundw
        case rel =>
          refine ⟨4, by go_num, by omega, hid ?_, hid (HR.out.setCell_other (p := ⟨z2, 4, none⟩) HZ.out _), hid (HB.out.setCell HZ2.out _)⟩
          have h := HS.out.setCell_same 4 (.int .i64 (8 + 2 * (hf m r : Nat) + (nd m r : Nat)))
          simpa [pr] using h
        case measure => simp [intOf]
      · have q1 : wr.cell? ⟨z2, 4, none⟩ = some (.int .i64 (8 + 2 * (hf m r : Nat) + (nd m r : Nat))) := HS.out.cell 4
        have q2 : wr.cell? ⟨z2, 5, none⟩ = some (.int .i64 0) := HS.out.cell 5
        have q3 := HS.out.frozen 5
        have b3 := B3.out
        have b4 := B4.out
        go_wp2_with ((with_reducible apply ixI (k := 4) Try.underlying177); decide; rfl; rfl; rfl)
        go_roundw
        case rel =>
          refine ⟨5, by go_num, by omega, hid ?_, hid (HR.out.setCell_other (p := ⟨z2, 5, none⟩) HZ.out _), hid (HB.out.setCell HZ2.out _)⟩
          have h := HS.out.setCell_same 5 (.int .i64 (8 + 2 * (hf m r : Nat) + (nd m r : Nat) + r))
          simpa [pr] using h
        case measure => simp [intOf]
      · go_upto_region 1 with (first | ((with_reducible apply ldR (tSt _ _ _ _ _ _)); rfl; exact HS.out.whole) | ((with_reducible apply stR (tSt _ _ _ _ _ _)); rfl; rfl; exact HR.out; rfl; exact one6 _ _ _ _ _ _))
        generalize hw8 : World.setRow _ _ _ = w8
        have R8 := hid (show Blk w8 (w.heap.size + 1) tyS (sv m r) by rw [← hw8, sv_good hg]; exact HR.out.setRow_same _)
        have B8 := hid (show Below w.heap.size w w8 by rw [← hw8]; exact below_setRow HB.out (Nat.le_succ _) _)
        clear hw8 HR HS HB
        go_wp2_with fail
        refine ret_row rfl R8.out Try.underlying170 rfl (by kernel_rfl) rfl rfl ?_
        exact ⟨rfl, B8.out⟩
  · unfold gv
    go_enter Try.func99, Try.ntmps99
    go_wp2_with fail
    refine (check_any _ _ _).mono ?_
    rw [if_neg hg]
    rintro e w1 ⟨rfl, h1⟩
    have A1 := hid (((At.new w a b).on (below_al _)).on h1)
    have R1 := hid (show Blk w1 (w.heap.size + 1) tyS #[.int .i64 0, .int .i64 0, .int .i64 0, .int .i64 0, .int .i64 0, .int .i64 0] from (Blk.top (w := w.alloc (.cells #[.int .i64 a, .int .i64 b] tyG)) rfl (by simp)).below h1 (by simp))
    clear h1
    go_wp2_with ((with_reducible apply stR (tSt _ _ _ _ _ _)); rfl; rfl; exact R1.out; rfl; exact one6 _ _ _ _ _ _)
    generalize hw2 : World.setRow _ _ _ = w2
    have R2 := hid (show Blk w2 (w.heap.size + 1) tyS #[.int .i64 0, .int .i64 0, .int .i64 0, .int .i64 0, .int .i64 0, .int .i64 0] by rw [← hw2]; exact R1.out.setRow_same _)
    have B2 := hid (show Below w.heap.size w w2 by rw [← hw2]; exact below_setRow A1.out.bel (Nat.le_succ _) _)
    clear hw2 A1 R1
    simp only [Act.put]
    refine ret_row rfl R2.out Try.underlying170 rfl (by kernel_rfl) rfl rfl ?_
    rw [sv_bad hg]
    exact ⟨rfl, B2.out⟩
end GeM
end Go.Proofs.Ytijgbbeplojinaa
