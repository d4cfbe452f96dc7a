/-
  Small general lemmas of the walks: facts hidden from the walk, quiet calls inside regions that draw their order, worlds behind draws.
  Arrays by value, told by a function of the index; blocks of memory that are known whole.
  Slices of bytes, told as lists.
  Geometries in plain numbers: how many sectors of which region there are, and where they lie.
  Worlds behind draws alone, and behind one new row.
  Worlds that differ in one block, and in new ones.
  Several cells of a block stored one behind the other.
  '==' of two arrays of integers.
  A region that draws its order, where each operation yields ONE value whatever has come up ahead of it, and a class of worlds (that may depend on what has come up) is handed on:   one look at each operation, at the lexical frame, serves every order. A tail in a fixed order may stand behind.
  Rows of n bytes, by value and in memory, of any such type: loads, stores, new variables, returns, comparisons.
  A region that draws its order and makes two new variables ('x, y := f(), g()'): their addresses hang on the order; all else does not.
  A region that draws its order and makes one new variable ('x := f(y)', the call no lone one): its address hangs on the order; all else does not.
  Rows of n bytes loaded in a drawn region that makes a variable.
  Structs and arrays of any cells, loaded and stored whole.
  A region in the text's order, walked as one that draws it (a class of worlds is handed on; guards are read off).
  Contracts of geom's check, leaves and logical sectors over this translation.
  Which member has which column of a row, and which sector lies where, in plain numbers.
  Slices of numbers of any kind: read out of one row; made by a call for itself, append.
  Lists of elements of k cells each: as they lie in memory, and as a list of the call's own. Worlds in which only blocks of a set are turned.
  Rows of sectors in one block: a slice literal of sectors; what lies in such a block.
  Structs of any fields: built out of all their fields.
-/
import Derived.WalkKit
import Derived.BigQuiet
import Derived.Deep.QuietTactic
import Derived.Deep.Draws
import Derived.Below
import Derived.Deep.MidRow
import Derived.Test.YtclmdakgkiponaaRows
import Derived.ProofKit
import Derived.OpenShut
import Derived.StillTailTactics
import Derived.Deep.Cut
import Derived.Outline
import Derived.Laws.StructEq
import Derived.StillTail
import Derived.Deep.Quiet
import Derived.KernelRfl
import Derived.Laws.AppendOwn
import Derived.Laws.AppendOwnNone
import Derived.Great.BuildSlice
set_option linter.unusedVariables false
set_option linter.unusedSimpArgs false
set_option maxRecDepth 100000
namespace Go.Proofs.Ytclmdakgkiponaa
open Go.RowKit
theorem quiet_add_left {P : Program} {f : FuncId} {args : Array Value} {w : World} {a n : Nat} {v : Value}
    (h : Calls P f args (w.drewN (a + n)) fun e w' => e = .returned v ∧ w.drewN (a + n) = w') :
    Calls P f args (w.drewN (a + n)) fun e w'' => e = .returned v ∧ ∃ m, w'' = w.drewN (a + m) :=
  h.mono fun _ _ ⟨he, hm⟩ => ⟨he, n, hm.symm⟩
theorem quiet_left {P : Program} {f : FuncId} {args : Array Value} {w : World} {n : Nat} {v : Value}
    (h : Calls P f args (w.drewN n) fun e w' => e = .returned v ∧ w.drewN n = w') : Calls P f args (w.drewN n) fun e w'' => e = .returned v ∧ ∃ m, w'' = w.drewN m :=
  h.mono fun _ _ ⟨he, hm⟩ => ⟨he, n, hm.symm⟩
theorem below_drewN {B : Nat} {a w : World} (h : Below B a w) (n : Nat) : Below B a (w.drewN n) := ⟨h.os, h.tape, h.output, h.size, h.block⟩
end Go.Proofs.Ytclmdakgkiponaa
set_option maxRecDepth 100000
namespace Go.Proofs.Ytclmdakgkiponaa
open Go.RowKit
theorem hid {p : Prop} (h : p) : RowKit.Hid p := h
/-- n cells, each told by its index. -/
def row (n : Nat) (f : Nat → Value) : Array Value := Array.ofFn (n := n) fun i => f i.val
theorem size_row {n : Nat} {f : Nat → Value} : (row n f).size = n := by simp [row]
theorem get_row {n : Nat} {f : Nat → Value} (k : Nat) : (row n f)[k]? = if k < n then some (f k) else none := by
  unfold row
  by_cases h : k < n
  · simp [h]
  · simp [h]
theorem get_row_lt {n : Nat} {f : Nat → Value} {k : Nat} (h : k < n) : (row n f)[k]? = some (f k) := by rw [get_row, if_pos h]
theorem row_ext {n : Nat} {f g : Nat → Value} (h : ∀ k, k < n → f k = g k) : row n f = row n g := by
  apply Array.ext_getElem?
  intro k
  rw [get_row, get_row]
  split
  · rw [h k ‹_›]
  · rfl
theorem row_set {n : Nat} {f : Nat → Value} {k : Nat} {v : Value} : (row n f).setIfInBounds k v = row n fun j => if j = k then v else f j := by
  apply Array.ext_getElem?
  intro j
  rw [Array.getElem?_setIfInBounds, get_row, get_row, size_row]
  by_cases hj : k = j
  · subst hj; simp
  · simp [hj, Ne.symm hj]
theorem row_inj {n : Nat} {f g : Nat → Value} (h : row n f = row n g) : ∀ k, k < n → f k = g k := fun k hk => by
  have := congrArg (fun a : Array Value => a[k]?) h
  simp only [get_row, if_pos hk, Option.some.injEq] at this
  exact this
/-- 64 bytes. -/
def sec (f : Nat → Nat) : Array Value := row 64 fun k => .int .u8 (f k)
theorem size_sec {f : Nat → Nat} : (sec f).size = 64 := size_row
theorem get_sec {f : Nat → Nat} {k : Nat} (h : k < 64) : (sec f)[k]? = some (.int .u8 (f k)) := get_row_lt h
theorem sec_ext {f g : Nat → Nat} (h : ∀ k, k < 64 → f k = g k) : sec f = sec g := row_ext fun k hk => by rw [h k hk]
theorem sec_inj {f g : Nat → Nat} (h : sec f = sec g) : ∀ k, k < 64 → f k = g k := fun k hk => by
  have := row_inj h k hk
  simp only [Value.int.injEq, true_and] at this
  exact Int.ofNat_inj.1 this
theorem sec_set {f : Nat → Nat} {k v : Nat} : (sec f).setIfInBounds k (.int .u8 v) = sec fun j => if j = k then v else f j := by
  unfold sec
  rw [row_set]
  exact row_ext fun j _ => by by_cases e : j = k <;> simp [e]
theorem row_one {n : Nat} {f : Nat → Value} (h : ∀ k, k < n → (f k).oneCell' = true) : (row n f).all (·.oneCell') = true := by
  rw [Array.all_eq_true]
  intro i hi
  have hi' : i < n := by simpa [size_row] using hi
  have e : (row n f)[i] = f i := by
    have := get_row (f := f) (n := n) i
    rw [if_pos hi', Array.getElem?_eq_getElem hi] at this
    exact Option.some.inj this
  rw [e]; exact h i hi'
theorem sec_one {f : Nat → Nat} : (sec f).all (·.oneCell') = true := row_one fun _ _ => rfl
theorem zeros_sec : (Array.replicate 64 (Value.int .u8 0)) = sec fun _ => 0 := by
  apply Array.ext_getElem?
  intro k
  unfold sec
  rw [get_row]
  by_cases h : k < 64
  · simp [h]
  · simp [h]

/-! ### Blocks that are known whole -/
def Blk (w : World) (g : Nat) (t : TypeId) (cs : Array Value) : Prop := w.heap[g]? = some (.cells cs t (0, 0))
section
variable {w w' : World} {g : Nat} {t : TypeId} {cs : Array Value}
theorem Blk.lt (h : Blk w g t cs) : g < w.heap.size := by
  rcases Nat.lt_or_ge g w.heap.size with hlt | hge
  · exact hlt
  · unfold Blk at h; rw [Array.getElem?_eq_none hge] at h; cases h
theorem Blk.cell (h : Blk w g t cs) (i : Nat) : w.cell? ⟨g, i, none⟩ = cs[i]? := cell_of_row w g i cs t (0, 0) h
theorem Blk.frozen (h : Blk w g t cs) (i : Nat) : w.frozen? ⟨g, i, none⟩ = false := by
  unfold Blk at h
  simp [World.frozen?, h]
theorem Blk.new (w : World) (t : TypeId) (cs : Array Value) : Blk (w.alloc (.cells cs t)) w.heap.size t cs := heap_alloc_new w _
theorem Blk.drew (h : Blk w g t cs) : Blk w.drew g t cs := h
theorem Blk.drewN (h : Blk w g t cs) (n : Nat) : Blk (w.drewN n) g t cs := h
theorem Blk.alloc (h : Blk w g t cs) (o : Obj) : Blk (w.alloc o) g t cs := (Below.heap_alloc w o g h.lt).trans h
theorem Blk.below {B : Nat} (h : Blk w g t cs) (hb : Below B w w') (hg : g < B) : Blk w' g t cs := (hb.block g hg).trans h
theorem Blk.setCell_same (h : Blk w g t cs) (i : Nat) (v : Value) : Blk (w.setCell ⟨g, i, none⟩ v) g t (cs.setIfInBounds i v) := by
  rw [setCell_eq_setRow w g i cs t (0, 0) v h]
  exact setRow_heap w g cs _ t _ h
theorem Blk.setCell_other (h : Blk w g t cs) {p : Addr} (hp : p.block ≠ g) (v : Value) : Blk (w.setCell p v) g t cs := (Below.heap_setCell w p v g (Ne.symm hp)).trans h
theorem Blk.setRow_same (h : Blk w g t cs) (cs' : Array Value) : Blk (w.setRow g cs') g t cs' := setRow_heap w g cs cs' t _ h
theorem Blk.setRow_other {g' : Nat} (h : Blk w g t cs) (hp : g' ≠ g) (cs' : Array Value) : Blk (w.setRow g' cs') g t cs := (Go.setRow_other w g' g cs' (Ne.symm hp)).trans h
theorem Blk.range (h : Blk w g t cs) (o n : Nat) : w.rangeAt g o (cs.extract o (o + n)).toList := World.rangeAt_of_block h o n
end
theorem below_setRow {B : Nat} {a w : World} (h : Below B a w) {g : Nat} (hg : B ≤ g) (cs : Array Value) : Below B a (w.setRow g cs) :=
  h.trans ⟨rfl, rfl, rfl, by simp, fun k hk => Go.setRow_other w g k cs (by omega)⟩
/-- What is stored where it stands turns nothing. -/
theorem Blk.setRow_id {w : World} {g : Nat} {t : TypeId} {cs : Array Value} (h : Blk w g t cs) : w.setRow g cs = w := setRow_self w g cs t (0, 0) h
theorem Blk.inj {w : World} {g : Nat} {t t' : TypeId} {cs cs' : Array Value} (h : Blk w g t cs) (h' : Blk w g t' cs') : cs = cs' := by
  unfold Blk at h h'
  rw [h] at h'
  simp only [Option.some.injEq, Obj.cells.injEq] at h'
  exact h'.1
/-- The zeros as the walk writes them out. -/
theorem zlit : (#[.int .u8 0, .int .u8 0, .int .u8 0, .int .u8 0, .int .u8 0, .int .u8 0, .int .u8 0, .int .u8 0, .int .u8 0, .int .u8 0, .int .u8 0, .int .u8 0, .int .u8 0, .int .u8 0, .int .u8 0, .int .u8 0, .int .u8 0, .int .u8 0, .int .u8 0, .int .u8 0, .int .u8 0, .int .u8 0, .int .u8 0, .int .u8 0, .int .u8 0, .int .u8 0, .int .u8 0, .int .u8 0, .int .u8 0, .int .u8 0, .int .u8 0, .int .u8 0, .int .u8 0, .int .u8 0, .int .u8 0, .int .u8 0, .int .u8 0, .int .u8 0, .int .u8 0, .int .u8 0, .int .u8 0, .int .u8 0, .int .u8 0, .int .u8 0, .int .u8 0, .int .u8 0, .int .u8 0, .int .u8 0, .int .u8 0, .int .u8 0, .int .u8 0, .int .u8 0, .int .u8 0, .int .u8 0, .int .u8 0, .int .u8 0, .int .u8 0, .int .u8 0, .int .u8 0, .int .u8 0, .int .u8 0, .int .u8 0, .int .u8 0, .int .u8 0] : Array Value) = sec fun _ => 0 := by rfl
theorem Blk.top {w : World} {n : Nat} {t : TypeId} {c cs : Array Value} (h : c = cs) (hn : n = w.heap.size) : Blk (w.alloc (.cells c t)) n t cs := by
  subst h hn; exact Blk.new w t c

/-! ### One operation of the walk: a whole sector out of, and into, a block; out of the middle of one -/
section
variable {P : Program} {ops : Array Oper} {Q : Exit → Act → World → Prop} {a : Act} {w : World} {rest : List Oper} {dst : Option Tmp} {ty : TypeId} {pos : String} {after : Array Edge}
theorem step_load_row {T : TypeId} {x : Operand} {g : Nat} {t : TypeId} {cs : Array Value} {d : TypeDesc} (hb : Blk w g t cs) (hu : P.underlying T = some d) (hd : d.isRow = true)
    (hi : (P.info? T).map (·.size) = some cs.size) (hx : a.eval x = .pointer (some ⟨g, 0, none⟩)) (h : wpList P ops Q rest (a.put dst (.agg cs)) w) :
    wpList P ops Q (⟨dst, .load T x, ty, pos, after, none⟩ :: rest) a w :=
  wpList_load_row rfl T x rfl g hx t cs (0, 0) d hb hu (by cases d <;> first | rfl | exact hd) hi h
theorem step_store_row {T : TypeId} {x y : Operand} {g : Nat} {t : TypeId} {old cs : Array Value} (hb : Blk w g t old) (hi : (P.info? T).map (·.size) = some cs.size) (hs : old.size = cs.size)
    (h1 : cs.all (·.oneCell') = true) (hx : a.eval x = .pointer (some ⟨g, 0, none⟩)) (hy : a.eval y = .agg cs) (h : wpList P ops Q rest (a.put dst undef) (w.setRow g cs)) :
    wpList P ops Q (⟨dst, .store T x y, ty, pos, after, none⟩ :: rest) a w :=
  wpList_store_row rfl T x y rfl g cs hx hy t old hb hi hs h1 h
theorem step_load_mid {T : TypeId} {x : Operand} {g o : Nat} {cs : List Value} {d : TypeDesc} (hc : w.rangeAt g o cs) (hu : P.underlying T = some d) (hd : d.isRow = true)
    (hi : (P.info? T).map (·.size) = some cs.length) (hx : a.eval x = .pointer (some ⟨g, o, none⟩)) (h : wpList P ops Q rest (a.put dst (.agg cs.toArray)) w) :
    wpList P ops Q (⟨dst, .load T x, ty, pos, after, none⟩ :: rest) a w :=
  wpList_load_mid rfl T x rfl g o hx cs d hc hu hd hi h
theorem ret_row {fn : Func} {R : Ending → World → Prop} {p : Tmp} {T : TypeId} {g : Nat} {t : TypeId} {cs : Array Value} {d : TypeDesc} (hr : fn.results = #[.cell p T]) (hb : Blk w g t cs)
    (hu : P.underlying T = some d) (hd : d.isRow = true) (hi : (P.info? T).map (·.size) = some cs.size) (hp : a.tmps.getD p undef = .pointer (some ⟨g, 0, none⟩)) (hdf : a.defers = [])
    (hR : R (.returned (.agg cs)) w) : bodyPost P fn R .ret a w :=
  bodyPost_ret (results_cell_row hr a.tmps w g t cs (0, 0) d hp hb hu (by cases d <;> first | rfl | exact hd) hi) hdf hR
end
end Go.Proofs.Ytclmdakgkiponaa
set_option maxRecDepth 100000
namespace Go.Proofs.Ytclmdakgkiponaa
open Go.ChangeShapes Go.WideShapes Go.ChangeAt Go.RowKit
/-- A slice of the bytes of l, in one row below block B. -/
def Byt (w : World) (B : Nat) (A : Option Addr) (l : List Nat) : Prop :=
  0 < l.length → ∃ b o, A = some ⟨b, o, none⟩ ∧ b < B ∧ ∀ i, i < l.length → w.cell? ⟨b, o + i, none⟩ = some (.int .u8 (l.getD i 0 : Nat))
theorem Byt.below {B B' : Nat} {w w' : World} {A : Option Addr} {l : List Nat} (h : Byt w B A l) (hb : Below B' w w') (hB : B ≤ B') : Byt w' B A l := fun hn => by
  obtain ⟨b, o, rfl, hl, hr⟩ := h hn
  exact ⟨b, o, rfl, hl, fun i hi => (hb.cell (p := ⟨b, o + i, none⟩) (by show b < B'; omega)).trans (hr i hi)⟩
theorem Byt.more {B B' : Nat} {w : World} {A : Option Addr} {l : List Nat} (h : Byt w B A l) (hB : B ≤ B') : Byt w B' A l := fun hn => by
  obtain ⟨b, o, rfl, hl, hr⟩ := h hn
  exact ⟨b, o, rfl, by omega, hr⟩
def B256 (l : List Nat) : Prop := ∀ x ∈ l, x < 256
theorem B256.take {l : List Nat} (h : B256 l) (n : Nat) : B256 (l.take n) := fun x hx => h x (List.mem_of_mem_take hx)
theorem B256.drop {l : List Nat} (h : B256 l) (n : Nat) : B256 (l.drop n) := fun x hx => h x (List.mem_of_mem_drop hx)
theorem B256.append {l k : List Nat} (h : B256 l) (h' : B256 k) : B256 (l ++ k) := fun x hx => (List.mem_append.1 hx).elim (h x) (h' x)
theorem getD_take {l : List Nat} {n i : Nat} (h : i < n) : (l.take n).getD i 0 = l.getD i 0 := by
  rw [List.getD_eq_getElem?_getD, List.getD_eq_getElem?_getD, List.getElem?_take_of_lt h]
theorem getD_drop {l : List Nat} {n i : Nat} : (l.drop n).getD i 0 = l.getD (n + i) 0 := by
  rw [List.getD_eq_getElem?_getD, List.getD_eq_getElem?_getD, List.getElem?_drop]
theorem Byt.take {w : World} {B : Nat} {A : Option Addr} {l : List Nat} (h : Byt w B A l) (n : Nat) : Byt w B A (l.take n) := fun hn => by
  rw [List.length_take] at hn
  obtain ⟨b, o, rfl, hl, hr⟩ := h (by omega)
  refine ⟨b, o, rfl, hl, fun i hi => ?_⟩
  rw [List.length_take] at hi
  rw [getD_take (by omega)]
  exact hr i (by omega)
theorem Byt.drop {w : World} {B b o : Nat} {l : List Nat} (h : Byt w B (some ⟨b, o, none⟩) l) (n : Nat) : Byt w B (some ⟨b, o + n, none⟩) (l.drop n) := fun hn => by
  rw [List.length_drop] at hn
  obtain ⟨b', o', e, hl, hr⟩ := h (by omega)
  cases e
  refine ⟨b, o + n, rfl, hl, fun i hi => ?_⟩
  rw [List.length_drop] at hi
  rw [getD_drop, Nat.add_assoc]
  exact hr (n + i) (by omega)
theorem Byt.none {w : World} {B : Nat} {A : Option Addr} {l : List Nat} (h : l.length = 0) : Byt w B A l := fun hn => by omega
def lenOf : Value → Nat
  | .slice _ n _ => n
  | _ => 0
theorem nums_at {l : List Nat} {i : Nat} (h : i < l.length) : l.getD i 0 = l[i] := by
  rw [List.getD_eq_getElem?_getD, List.getElem?_eq_getElem h]; rfl
end Go.Proofs.Ytclmdakgkiponaa
set_option maxRecDepth 100000
namespace Go.Proofs.Ytclmdakgkiponaa
namespace GeM
/-- A geometry: 4 to 64 members, 1 to 64 rows. -/
def Good (a b : Int) : Prop := 4 ≤ a ∧ a ≤ 64 ∧ 1 ≤ b ∧ b ≤ 64
instance (a b : Int) : Decidable (Good a b) := by unfold Good; infer_instance
def lv (m r : Nat) : Nat := m * r
def ht (m r : Nat) : Nat := Nat.log2 (m * r - 1) + 1
def nd (m r : Nat) : Nat := 2 ^ ht m r - 1
def lo (m r : Nat) : Nat := r * (m - 2)
def mx (m : Nat) : Nat := if 6 < m then m else 6
def cp (m r : Nat) : Nat := mx m + (if nd m r < mx m * ht m r then nd m r else mx m * ht m r) + 8
def hf (m r : Nat) : Nat := 2 + (69 * cp m r + 63) / 64
/-- How many sectors of region k there are. -/
def sz (m r k : Nat) : Nat := match k with
  | 1 => 8
  | 2 => 2 * hf m r
  | 3 => nd m r
  | 4 => r
  | _ => 0
/-- The first place of region k. -/
def st (m r k : Nat) : Nat := match k with
  | 2 => 8
  | 3 => 8 + 2 * hf m r
  | 4 => 8 + 2 * hf m r + nd m r
  | 5 => 8 + 2 * hf m r + nd m r + r
  | _ => 0
def sec (m r : Nat) : Nat := st m r 5
/-- The least index of region k. -/
def lw (k : Int) : Nat := if k = 3 then 1 else 0
/-- A number of a geometry, 0 of what is none. -/
def L (f : Nat → Nat → Nat) (a b : Int) : Nat := if Good a b then f a.toNat b.toNat else 0
theorem L_good {f : Nat → Nat → Nat} {m r : Nat} (h : Good m r) : L f m r = f m r := by simp [L, h]
theorem L_bad {f : Nat → Nat → Nat} {a b : Int} (h : ¬ Good a b) : L f a b = 0 := by simp [L, h]
theorem good_nat {a b : Int} (h : Good a b) : ∃ m r : Nat, a = m ∧ b = r ∧ 4 ≤ m ∧ m ≤ 64 ∧ 1 ≤ r ∧ r ≤ 64 := by
  obtain ⟨h1, h2, h3, h4⟩ := h
  exact ⟨a.toNat, b.toNat, by omega, by omega, by omega, by omega, by omega, by omega⟩
section
variable {m r : Nat}
theorem lv_bd (h : Good m r) : 4 ≤ lv m r ∧ lv m r ≤ 4096 := by
  obtain ⟨h1, h2, h3, h4⟩ := h
  unfold lv
  have a := Nat.mul_le_mul (show m ≤ 64 by omega) (show r ≤ 64 by omega)
  have b := Nat.mul_le_mul (show 4 ≤ m by omega) (show 1 ≤ r by omega)
  omega
theorem ht_up (h : Good m r) : lv m r ≤ 2 ^ ht m r := by
  have := lv_bd h
  have h1 : m * r - 1 < 2 ^ (Nat.log2 (m * r - 1) + 1) := Nat.lt_log2_self
  unfold ht lv at *
  omega
theorem ht_lo (h : Good m r) : 2 ^ (ht m r - 1) < lv m r := by
  have := lv_bd h
  unfold lv at this
  have h1 : 2 ^ Nat.log2 (m * r - 1) ≤ m * r - 1 := Nat.log2_self_le (by omega)
  unfold ht lv
  rw [Nat.add_sub_cancel]
  omega
theorem ht_pos : 1 ≤ ht m r := by unfold ht; omega
theorem ht_bd (h : Good m r) : ht m r ≤ 12 := by
  have h1 := ht_lo h
  have h2 := lv_bd h
  rcases Nat.lt_or_ge 12 (ht m r) with e | e
  · have := Nat.pow_le_pow_right (show 0 < 2 by omega) (show 12 ≤ ht m r - 1 by omega)
    omega
  · exact e
theorem pow_two (h : Good m r) : 2 ^ ht m r < 2 * lv m r := by
  have h1 := ht_lo h
  have h2 : 2 ^ ht m r = 2 * 2 ^ (ht m r - 1) := by
    have := @ht_pos m r
    rw [show ht m r = (ht m r - 1) + 1 by omega, Nat.pow_succ, Nat.add_sub_cancel]
    omega
  omega
/-- The height is the least that has places for all leaves. -/
theorem ht_of (h : Good m r) {k : Nat} (hk : lv m r ≤ 2 ^ k) (hl : ∀ j, j < k → 2 ^ j < lv m r) : k = ht m r := by
  rcases Nat.lt_trichotomy k (ht m r) with e | e | e
  · have h1 := ht_lo h
    have := Nat.pow_le_pow_right (show 0 < 2 by omega) (show k ≤ ht m r - 1 by omega)
    omega
  · exact e
  · have := hl _ e
    have := ht_up h
    omega
theorem nd_eq (_ : Good m r) : nd m r + 1 = 2 ^ ht m r := by
  have := Nat.pow_pos (n := ht m r) (show 0 < 2 by omega)
  unfold nd
  omega
theorem nd_bd (h : Good m r) : 3 ≤ nd m r ∧ nd m r ≤ 8190 := by
  have h1 := nd_eq h
  have h2 := pow_two h
  have h3 := ht_up h
  have h4 := lv_bd h
  omega
theorem mx_bd (h : Good m r) : 6 ≤ mx m ∧ mx m ≤ 64 := by
  obtain ⟨h1, h2, h3, h4⟩ := h
  unfold mx
  split <;> omega
theorem mh_bd (h : Good m r) : mx m * ht m r ≤ 768 := by
  have h1 := ht_bd h
  have h2 := mx_bd h
  have := Nat.mul_le_mul h2.2 h1
  omega
theorem cp_bd (h : Good m r) : 14 ≤ cp m r ∧ cp m r ≤ 840 := by
  have h1 := mh_bd h
  have h2 := mx_bd h
  unfold cp
  split <;> omega
theorem hf_bd (h : Good m r) : 2 ≤ hf m r ∧ hf m r ≤ 908 := by
  have := cp_bd h
  unfold hf
  omega
theorem lo_bd (h : Good m r) : lo m r ≤ 4096 := by
  obtain ⟨h1, h2, h3, h4⟩ := h
  unfold lo
  have a := Nat.mul_le_mul (show r ≤ 64 by omega) (show m - 2 ≤ 64 by omega)
  omega
theorem lo_eq (h : Good m r) : lo m r + 2 * r = lv m r := by
  obtain ⟨h1, h2, h3, h4⟩ := h
  unfold lo lv
  rw [Nat.mul_comm 2 r, ← Nat.mul_add, show m - 2 + 2 = m by omega, Nat.mul_comm]
theorem r_bd (h : Good m r) : 4 ≤ m ∧ m ≤ 64 ∧ 1 ≤ r ∧ r ≤ 64 := by
  obtain ⟨h1, h2, h3, h4⟩ := h
  omega
theorem sec_bd (h : Good m r) : sec m r ≤ 20000 := by
  have h1 := hf_bd h
  have h2 := nd_bd h
  have h3 := r_bd h
  show 8 + 2 * hf m r + nd m r + r ≤ 20000
  omega
end
/-- Where region k's sector i lies. -/
def pl (a b k i : Int) : Option Nat :=
  if Good a b ∧ 1 ≤ k ∧ k ≤ 4 ∧ (lw k : Int) ≤ i ∧ i - lw k < sz a.toNat b.toNat k.toNat then some (st a.toNat b.toNat k.toNat + (i - lw k).toNat) else none
/-- The region in which place p lies. -/
def rg (a b p : Int) : Nat :=
  if p < st a.toNat b.toNat 2 then 1 else if p < st a.toNat b.toNat 3 then 2 else if p < st a.toNat b.toNat 4 then 3 else 4
/-- The sector at place p. -/
def wh (a b p : Int) : Option (Nat × Nat) :=
  if Good a b ∧ 0 ≤ p ∧ p < sec a.toNat b.toNat then some (rg a b p, p.toNat - st a.toNat b.toNat (rg a b p) + lw (rg a b p)) else none
theorem st_1 (m r : Nat) : st m r 1 = 0 := rfl
theorem st_2 (m r : Nat) : st m r 2 = 8 := rfl
theorem st_3 (m r : Nat) : st m r 3 = 8 + 2 * hf m r := rfl
theorem st_4 (m r : Nat) : st m r 4 = 8 + 2 * hf m r + nd m r := rfl
theorem st_5 (m r : Nat) : st m r 5 = 8 + 2 * hf m r + nd m r + r := rfl
theorem rg_cases (a b p : Int) : (rg a b p = 1 ∧ p < st a.toNat b.toNat 2) ∨ (rg a b p = 2 ∧ st a.toNat b.toNat 2 ≤ p ∧ p < st a.toNat b.toNat 3) ∨ (rg a b p = 3 ∧ st a.toNat b.toNat 3 ≤ p ∧ p < st a.toNat b.toNat 4) ∨ (rg a b p = 4 ∧ st a.toNat b.toNat 4 ≤ p) := by
  have h2 := st_2 a.toNat b.toNat
  have h3 := st_3 a.toNat b.toNat
  have h4 := st_4 a.toNat b.toNat
  unfold rg
  generalize st a.toNat b.toNat 2 = s2 at *
  generalize st a.toNat b.toNat 3 = s3 at *
  generalize st a.toNat b.toNat 4 = s4 at *
  by_cases e2 : p < (s2 : Int)
  · rw [if_pos e2]; exact .inl ⟨rfl, e2⟩
  rw [if_neg e2]
  by_cases e3 : p < (s3 : Int)
  · rw [if_pos e3]; exact .inr (.inl ⟨rfl, by omega, e3⟩)
  rw [if_neg e3]
  by_cases e4 : p < (s4 : Int)
  · rw [if_pos e4]; exact .inr (.inr (.inl ⟨rfl, by omega, e4⟩))
  rw [if_neg e4]
  exact .inr (.inr (.inr ⟨rfl, by omega⟩))
theorem sz_1 (m r : Nat) : sz m r 1 = 8 := rfl
theorem sz_2 (m r : Nat) : sz m r 2 = 2 * hf m r := rfl
theorem sz_3 (m r : Nat) : sz m r 3 = nd m r := rfl
theorem sz_4 (m r : Nat) : sz m r 4 = r := rfl
theorem lw_1 : lw ((1 : Nat) : Int) = 0 := rfl
theorem lw_2 : lw ((2 : Nat) : Int) = 0 := rfl
theorem lw_3 : lw ((3 : Nat) : Int) = 1 := rfl
theorem lw_4 : lw ((4 : Nat) : Int) = 0 := rfl
/-- Region k begins where the one ahead ends. -/
theorem st_sz (m r : Nat) {k : Nat} (h1 : 1 ≤ k) (h4 : k ≤ 4) : st m r (k + 1) = st m r k + sz m r k := by
  have : k = 1 ∨ k = 2 ∨ k = 3 ∨ k = 4 := by omega
  rcases this with rfl | rfl | rfl | rfl <;> simp [st, sz]
theorem rg_at {a b p : Int} (h0 : 0 ≤ p) (hs : p < st a.toNat b.toNat 5) : ∃ k : Nat, 1 ≤ k ∧ k ≤ 4 ∧ rg a b p = k ∧ st a.toNat b.toNat k ≤ p ∧ p < st a.toNat b.toNat (k + 1) := by
  rcases rg_cases a b p with ⟨e, x⟩ | ⟨e, x, y⟩ | ⟨e, x, y⟩ | ⟨e, x⟩
  · exact ⟨1, by omega, by omega, e, by rw [st_1]; exact h0, x⟩
  · exact ⟨2, by omega, by omega, e, x, y⟩
  · exact ⟨3, by omega, by omega, e, x, y⟩
  · exact ⟨4, by omega, by omega, e, x, hs⟩
theorem rg_is {a b p : Int} {k : Nat} (h1 : 1 ≤ k) (h4 : k ≤ 4) (hl : st a.toNat b.toNat k ≤ p) (hu : p < st a.toNat b.toNat (k + 1)) : rg a b p = k := by
  have q2 := st_2 a.toNat b.toNat
  have q3 := st_3 a.toNat b.toNat
  have q4 := st_4 a.toNat b.toNat
  have : k = 1 ∨ k = 2 ∨ k = 3 ∨ k = 4 := by omega
  rcases this with rfl | rfl | rfl | rfl <;> simp only [Nat.reduceAdd] at hu <;> rcases rg_cases a b p with ⟨e, x⟩ | ⟨e, x, y⟩ | ⟨e, x, y⟩ | ⟨e, x⟩ <;> first | exact e | (exfalso; omega)
theorem wh_pl {a b p : Int} {k i : Nat} (h : wh a b p = some (k, i)) : pl a b k i = some p.toNat ∧ 0 ≤ p := by
  unfold wh at h
  split at h
  · rename_i hg
    obtain ⟨hg, h0, hs⟩ := hg
    injection h with h
    injection h with h1 h2
    obtain ⟨k', e1, e4, e, x, y⟩ := rg_at h0 hs
    rw [e] at h1 h2
    subst h1
    have hz := st_sz a.toNat b.toNat e1 e4
    refine ⟨?_, h0⟩
    rw [pl, if_pos ⟨hg, by omega, by omega, by omega, by rw [Int.toNat_natCast]; omega⟩, Int.toNat_natCast]
    congr 1
    omega
  · cases h
theorem pl_wh {a b k i : Int} {p : Nat} (h : pl a b k i = some p) : ∃ k' i' : Nat, k = k' ∧ i = i' ∧ wh a b p = some (k', i') := by
  unfold pl at h
  split at h
  · rename_i hg
    obtain ⟨hg, h1, h4, hl, hs⟩ := hg
    injection h with h
    obtain ⟨k, rfl⟩ : ∃ n : Nat, k = n := ⟨k.toNat, by omega⟩
    rw [Int.toNat_natCast] at hs h
    have hz := st_sz a.toNat b.toNat (k := k) (by omega) (by omega)
    have hm : st a.toNat b.toNat (k + 1) ≤ st a.toNat b.toNat 5 := by
      have : k = 1 ∨ k = 2 ∨ k = 3 ∨ k = 4 := by omega
      rcases this with rfl | rfl | rfl | rfl <;> simp only [Nat.reduceAdd, st_2, st_3, st_4, st_5] <;> omega
    have e := rg_is (a := a) (b := b) (p := (p : Nat)) (k := k) (by omega) (by omega) (by omega) (by omega)
    refine ⟨k, i.toNat, rfl, by omega, ?_⟩
    rw [wh, if_pos ⟨hg, by omega, by unfold sec; omega⟩, e]
    congr 2
    omega
  · cases h
theorem wh_iff {a b p : Int} : (∃ q, wh a b p = some q) ↔ Good a b ∧ 0 ≤ p ∧ p < L sec a b := by
  unfold wh L
  constructor
  · rintro ⟨q, h⟩
    split at h
    · rename_i e
      exact ⟨e.1, e.2.1, by rw [if_pos e.1]; exact e.2.2⟩
    · cases h
  · rintro ⟨h1, h2, h3⟩
    rw [if_pos h1] at h3
    exact ⟨_, if_pos ⟨h1, h2, h3⟩⟩
end GeM
end Go.Proofs.Ytclmdakgkiponaa
set_option maxRecDepth 100000
namespace Go.Proofs.Ytclmdakgkiponaa
open Go.ChangeShapes Go.WideShapes Go.ChangeAt Go.RowKit
def Drew (w w' : World) : Prop := ∃ k, w' = w.drewN k
theorem Drew.refl (w : World) : Drew w w.drew := ⟨1, rfl⟩
theorem Drew.cell {w w' : World} (h : Drew w w') {p : Addr} {v : Value} (hc : w.cell? p = some v) : w'.cell? p = some v := by
  obtain ⟨k, rfl⟩ := h; exact hc
theorem Drew.blk {w w' : World} (h : Drew w w') {g : Nat} {t : TypeId} {cs : Array Value} (hc : Blk w g t cs) : Blk w' g t cs := by
  obtain ⟨k, rfl⟩ := h; exact hc
theorem Drew.below {B : Nat} {a w w' : World} (h : Drew w w') (hb : Below B a w) : Below B a w' := by
  obtain ⟨k, rfl⟩ := h; exact below_drewN hb k
theorem Drew.heap {w w' : World} (h : Drew w w') : w'.heap = w.heap := by obtain ⟨k, rfl⟩ := h; rfl
/-- The worlds of a region in which one new row is made. -/
def Put (w : World) (o : Obj) (bb : Bool) (w' : World) : Prop := match bb with
  | false => Drew w w'
  | true => ∃ w7, Drew w w7 ∧ w' = w7.alloc o
theorem Put.cell {w w' : World} {o : Obj} {bb : Bool} (h : Put w o bb w') {p : Addr} {v : Value} (hp : p.block < w.heap.size) (hc : w.cell? p = some v) : w'.cell? p = some v := by
  cases bb with
  | false => exact Drew.cell h hc
  | true =>
    obtain ⟨w7, h7, rfl⟩ := h
    exact (((Below.refl w7.heap.size w7).alloc (Nat.le_refl _) _).cell (by rw [h7.heap]; exact hp)).trans (h7.cell hc)
theorem Drew.trans {w w' w'' : World} (h : Drew w w') (h2 : Drew w' w'') : Drew w w'' := by
  obtain ⟨a, ha⟩ := h
  obtain ⟨b, hb⟩ := h2
  exact ⟨a + b, by rw [hb, ha]; simp⟩
end Go.Proofs.Ytclmdakgkiponaa
set_option maxRecDepth 100000
namespace Go.Proofs.Ytclmdakgkiponaa
open Go.ChangeShapes Go.WideShapes Go.ChangeAt Go.RowKit
theorem cell_other {w : World} {p q : Addr} {v : Value} (h : q.block ≠ p.block) : (w.setCell p v).cell? q = w.cell? q := by
  unfold World.cell?
  rw [Below.heap_setCell w p v q.block h]
/-! ### Only block g has turned -/
theorem only_refl (w : World) (g : Nat) : w.grownBy w (some g) := ⟨rfl, rfl, rfl, Nat.le_refl _, fun _ _ _ => rfl⟩
theorem only_trans {a b c : World} {g : Nat} (h : a.grownBy b (some g)) (k : b.grownBy c (some g)) : a.grownBy c (some g) :=
  ⟨k.os.trans h.os, k.tape.trans h.tape, k.output.trans h.output, Nat.le_trans h.size k.size, fun i hi hne => (k.block i (Nat.lt_of_lt_of_le hi h.size) hne).trans (h.block i hi hne)⟩
theorem only_of_below {a b : World} {g B : Nat} (k : Below B a b) (hB : a.heap.size ≤ B) : a.grownBy b (some g) :=
  ⟨k.os, k.tape, k.output, k.size, fun i hi _ => k.block i (by omega)⟩
theorem only_below {a b c : World} {g B : Nat} (h : a.grownBy b (some g)) (k : Below B b c) (hB : a.heap.size ≤ B) : a.grownBy c (some g) :=
  ⟨k.os.trans h.os, k.tape.trans h.tape, k.output.trans h.output, Nat.le_trans h.size k.size, fun i hi hne => (k.block i (by omega)).trans (h.block i hi hne)⟩
theorem only_cell {a b : World} {g : Nat} (h : a.grownBy b (some g)) (i : Nat) (v : Value) : a.grownBy (b.setCell ⟨g, i, none⟩ v) (some g) :=
  ⟨h.os, h.tape, h.output, by simpa using h.size, fun k hk hne => (Below.heap_setCell b ⟨g, i, none⟩ v k (fun e => hne (by rw [e]))).trans (h.block k hk hne)⟩
theorem only_drew {a b c : World} {g : Nat} (h : a.grownBy b (some g)) (k : Drew b c) : a.grownBy c (some g) := by
  obtain ⟨n, rfl⟩ := k; exact ⟨h.os, h.tape, h.output, h.size, h.block⟩
theorem only_Below {a b : World} {g B : Nat} (h : a.grownBy b (some g)) (hB : B ≤ g) (hs : B ≤ a.heap.size) : Below B a b :=
  ⟨h.os, h.tape, h.output, h.size, fun i hi => h.block i (by omega) (fun e => by injection e; omega)⟩
theorem Blk.only {a b : World} {g k : Nat} {t : TypeId} {cs : Array Value} (h : Blk a k t cs) (ho : a.grownBy b (some g)) (hne : k ≠ g) : Blk b k t cs := (ho.block k h.lt (fun e => hne (by injection e))).trans h
end Go.Proofs.Ytclmdakgkiponaa
set_option maxRecDepth 100000
namespace Go.Proofs.Ytclmdakgkiponaa
open Go.RowKit
section
variable {w : World} {g : Nat} {t : TypeId}
/-- The cells vs laid into a row from place o on. -/
theorem blk_setCells {N : Nat} : ∀ (vs : List Value) (o : Nat) (w : World) (F : Nat → Value), Blk w g t (row N F) → o + vs.length ≤ N →
    Blk (w.setCells g o vs) g t (row N fun j => if o ≤ j ∧ j < o + vs.length then vs.getD (j - o) undef else F j) ∧ Below g w (w.setCells g o vs)
  | [], o, w, F, h, _ => by
    rw [World.setCells]
    refine ⟨?_, Below.refl _ _⟩
    rw [row_ext (g := F) fun j _ => if_neg (by rw [List.length_nil]; omega)]
    exact h
  | v :: r, o, w, F, h, hN => by
    rw [List.length_cons] at hN
    have h1 := h.setCell_same o v
    rw [row_set] at h1
    obtain ⟨h2, h3⟩ := blk_setCells r (o + 1) _ _ h1 (by omega)
    rw [World.setCells]
    refine ⟨?_, ((Below.refl g w).setCell (p := ⟨g, o, none⟩) (Nat.le_refl _) v).trans h3⟩
    rw [row_ext (g := fun j => if o ≤ j ∧ j < o + (v :: r).length then (v :: r).getD (j - o) undef else F j) fun j _ => ?_] at h2
    · exact h2
    · rw [List.length_cons]
      by_cases e : j = o
      · subst e
        rw [if_neg (by omega), if_pos rfl, if_pos (by omega), Nat.sub_self]; rfl
      · by_cases e2 : o + 1 ≤ j ∧ j < o + 1 + r.length
        · rw [if_pos e2, if_pos (by omega), show j - o = (j - (o + 1)) + 1 by omega, List.getD_cons_succ]
        · rw [if_neg e2, if_neg e, if_neg (by omega)]
end
end Go.Proofs.Ytclmdakgkiponaa
set_option maxRecDepth 100000
namespace Go.Proofs.Ytclmdakgkiponaa
open Go.RowKit
/-- Are the first n alike? -/
def eqN (n : Nat) (f g : Nat → Int) : Bool := (List.range n).all fun k => f k == g k
section
variable {P : Program}
theorem eq_rounds {d e : TypeId} {k' : IntKind} {k : IntKind} {n : Nat} {f g : Nat → Int} (he : P.underlying e = some (.int k')) (w : World) : ∀ (m i : Nat), i + m = n →
    (forIn (m := Sem) (List.range' i m) ((none, ()) : Option Bool × Unit) (fun i _ => do
      let a ← part e (row n fun k' => .int k (f k')) (i * 1)
      let b ← part e (row n fun k' => .int k (g k')) (i * 1)
      let r ← Op.equalIn (d + 1) e a b
      if !r then pure (ForInStep.done (some false, ())) else pure (ForInStep.yield (none, ())))).run P w =
    .ok (if (List.range' i m).all (fun k => f k == g k) then (none, ()) else (some false, ())) w
  | 0, i, _ => by simp
  | m + 1, i, h => by
    have hp : ∀ (h : Nat → Int), (part e (row n fun k' => .int k (h k')) (i * 1)).run P w = .ok (.int k (h i)) w := fun h' => by
      have : (isAgg e).run P w = .ok false w := by unfold isAgg; rw [Sem.run_bind, run_underlying he w]; rfl
      simp [part, Sem.run_bind, this, get_row_lt (show i < n by omega)]
    rw [List.range'_succ, List.forIn_cons]
    simp only [Sem.run_bind, hp, Result.andThen_ok, run_equalIn_int w d e k k' _ _ he, List.all_cons]
    by_cases hfg : f i == g i
    · simp only [hfg, Bool.not_true, Bool.false_eq_true, if_false, Sem.run_pure, Result.andThen_ok, Bool.true_and]
      exact eq_rounds he w m (i + 1) (by omega)
    · simp [hfg, Sem.run_pure, Result.andThen_ok]
theorem run_equalIn_row {d t e : TypeId} {k' : IntKind} {k : IntKind} {n : Nat} {f g : Nat → Int} (ht : P.underlying t = some (.array n e)) (he : P.underlying e = some (.int k')) (hi : (P.info? e).map (·.size) = some 1) (w : World) :
    (Op.equalIn (d + 2) t (.agg (row n fun j => .int k (f j))) (.agg (row n fun j => .int k (g j)))).run P w = .ok (eqN n f g) w := by
  have hs : (sizeOf e).run P w = .ok 1 w := by
    cases hq : P.info? e with
    | none => simp [hq] at hi
    | some i => simp [hq] at hi; simp [sizeOf, typeInfo, hq, hi]
  have key := eq_rounds (P := P) (d := d) (k := k) (f := f) (g := g) (n := n) he w n 0 (by omega)
  unfold Op.equalIn
  simp only [Sem.run_bind, run_underlying ht, Result.andThen_ok, hs]
  rw [Std.Legacy.Range.forIn_eq_forIn_range']
  have hr : List.range' (Std.Legacy.Range.mk 0 n 1 (by decide)).start (Std.Legacy.Range.mk 0 n 1 (by decide)).size (Std.Legacy.Range.mk 0 n 1 (by decide)).step = List.range' 0 n := by
    simp [Std.Legacy.Range.size]
  rw [hr, key]
  simp only [Result.andThen_ok]
  unfold eqN
  rw [List.range_eq_range']
  by_cases h : ((List.range' 0 n).all fun k => f k == g k) = true
  · simp [h]
  · simp [h]
end
/-- Are two sectors alike? -/
def eqS (f g : Nat → Nat) : Bool := eqN 64 (fun k => f k) fun k => g k
theorem eqS_iff {f g : Nat → Nat} : eqS f g = true ↔ ∀ k, k < 64 → f k = g k := by
  unfold eqS eqN
  rw [List.all_eq_true]
  constructor
  · intro h k hk
    have := h k (List.mem_range.2 hk)
    exact Int.ofNat_inj.1 (beq_iff_eq.1 this)
  · intro h k hk
    have := h k (List.mem_range.1 hk)
    exact beq_iff_eq.2 (congrArg _ this)
theorem eqS_yes {f g : Nat → Nat} (h : ∀ k, k < 64 → f k = g k) : eqS f g = true := eqS_iff.2 h
theorem eqS_no {f g : Nat → Nat} (h : ¬ ∀ k, k < 64 → f k = g k) : eqS f g = false := by
  cases e : eqS f g with
  | false => rfl
  | true => exact absurd (eqS_iff.1 e) h
theorem eqS_sec {f g : Nat → Nat} : eqS f g = true ↔ sec f = sec g := by
  rw [eqS_iff]
  exact ⟨sec_ext, sec_inj⟩
end Go.Proofs.Ytclmdakgkiponaa
set_option maxRecDepth 100000
namespace Go.Proofs.Ytclmdakgkiponaa

/-- One operation, carried out in the world w, yields v; R holds of the world behind it. -/
def Gives (P : Program) (o : Oper) (a : Act) (w : World) (v : Value) (R : World → Prop) : Prop :=
  match (execOp a.eval o).run P w with
  | .ok (.value u) w' => u = v ∧ R w'
  | .ok .skip w' => v = undef ∧ R w'
  | .ok (.enter f args) w' => Calls P f args w' fun e w'' => e = .returned v ∧ R w''
  | _ => False

theorem wp_of_gives {P : Program} {o : Oper} {a : Act} {w : World} {v : Value} {R : World → Prop} {K : Act → World → Prop} {Q : Exit → Act → World → Prop}
    (h : Gives P o a w v R) (hK : ∀ w', R w' → K (a.put o.dst v) w') : o.wp P a w K Q := by
  unfold Gives at h
  unfold Oper.wp
  generalize (execOp a.eval o).run P w = r at *
  cases r with
  | ok n w' =>
    cases n <;> simp only at h <;> simp only [Oper.upon]
    case value u => obtain ⟨rfl, h⟩ := h; exact hK _ h
    case skip => obtain ⟨rfl, h⟩ := h; exact hK _ h
    case enter f args => exact h.mono fun e w'' ⟨he, hr⟩ => by subst he; exact hK _ hr
  | halt x w' => cases h

section
variable (ops : Array Oper)
/-- What a look at the texts of the operations shows. -/
def tidyPair (k j : Nat) (o p : Oper) : Bool :=
  j == k || ((match p.dst with | some _ => p.dst != o.dst | none => true) &&
    (match p.dst with | some d => !(o.looksAt ops).contains d || Region.waitsFor .any ops k j || (decide (k < j) && Region.waitsFor .any ops j k) | none => true))
def tidyAt (k : Nat) (o : Oper) : Bool :=
  (o.after.all fun e => !Region.binds .any e || decide (e.on < k)) && (List.range ops.size).all fun j => match ops[j]? with | some p => tidyPair ops k j o p | none => true
def tidy : Bool := Region.noSelect ops && (List.range ops.size).all fun k => match ops[k]? with | some o => tidyAt ops k o | none => true

def dstAt (j : Nat) : Option Tmp := (ops[j]?).bind (·.dst)
/-- The frame behind those of the first n operations that have come up. -/
def fr (vals : Nat → Value) (l : Nat → Bool) : Nat → Act → Act
  | 0, a => a
  | k + 1, a => if l k then (fr vals l k a).put (dstAt ops k) (vals k) else fr vals l k a
/-- Whatever has come up, all that it waits for has come up. -/
def Closed (L : Array Bool) : Prop := ∀ j o, ops[j]? = some o → L.getD j false = true → ∀ e ∈ o.after, Region.binds .any e = true → L.getD e.on false = true
end

section
variable {P : Program} {ops : Array Oper}
theorem tidy_at (h : tidy ops = true) {k : Nat} {o : Oper} (ho : ops[k]? = some o) : tidyAt ops k o = true := by
  simp only [tidy, Bool.and_eq_true] at h
  have hk : k < ops.size := (Array.getElem?_eq_some_iff.1 ho).1
  have := List.all_eq_true.1 h.2 k (List.mem_range.2 hk)
  simpa [ho] using this
theorem tidy_edge (h : tidy ops = true) {k : Nat} {o : Oper} (ho : ops[k]? = some o) : ∀ e ∈ o.after, Region.binds .any e = true → e.on < k := by
  intro e he hb
  have := tidy_at h ho
  simp only [tidyAt, Bool.and_eq_true] at this
  have h1 := (Array.all_eq_true_iff_forall_mem.1 this.1) e he
  simpa [hb] using h1
theorem tidy_pair (h : tidy ops = true) {k j : Nat} {o p : Oper} (ho : ops[k]? = some o) (hp : ops[j]? = some p) : tidyPair ops k j o p = true := by
  have := tidy_at h ho
  simp only [tidyAt, Bool.and_eq_true] at this
  have hj : j < ops.size := (Array.getElem?_eq_some_iff.1 hp).1
  have h1 := List.all_eq_true.1 this.2 j (List.mem_range.2 hj)
  simpa [hp] using h1
theorem dst_ne (h : tidy ops = true) {k j : Nat} (hne : j ≠ k) : ∀ d, dstAt ops j = some d → dstAt ops k ≠ some d := by
  intro d hj hk
  unfold dstAt at hj hk
  cases hoj : ops[j]? with
  | none => simp [hoj] at hj
  | some p =>
    cases hok : ops[k]? with
    | none => simp [hok] at hk
    | some o =>
      simp only [hoj, hok, Option.bind_some] at hj hk
      have := tidy_pair h hok hoj
      simp [tidyPair, hne, hj, hk] at this

theorem fr_congr {vals : Nat → Value} {l l' : Nat → Bool} : ∀ {n : Nat} {a : Act}, (∀ j, j < n → l j = l' j) → fr ops vals l n a = fr ops vals l' n a
  | 0, _, _ => rfl
  | n + 1, a, h => by
    simp only [fr, h n (by omega), fr_congr (n := n) (a := a) fun j hj => h j (by omega)]
theorem fr_vals {vals vals' : Nat → Value} {l : Nat → Bool} : ∀ {n : Nat} {a : Act}, (∀ j, j < n → l j = true → vals j = vals' j) → fr ops vals l n a = fr ops vals' l n a
  | 0, _, _ => rfl
  | n + 1, a, h => by
    simp only [fr, fr_vals (n := n) (a := a) fun j hj => h j (by omega)]
    by_cases e : l n = true
    · rw [if_pos e, if_pos e, h n (by omega) e]
    · rw [if_neg e, if_neg e]
theorem fr_set (h : tidy ops = true) {vals : Nat → Value} {l : Nat → Bool} {i : Nat} (hl : l i = false) :
    ∀ {n : Nat} {a : Act}, i < n → fr ops vals (fun j => l j || j == i) n a = (fr ops vals l n a).put (dstAt ops i) (vals i)
  | 0, _, hi => by omega
  | n + 1, a, hi => by
    by_cases e : i = n
    · subst e
      simp only [fr, beq_self_eq_true, Bool.or_true, if_true, hl, Bool.false_eq_true, if_false]
      congr 1
      exact fr_congr fun j hj => by
        have : (j == i) = false := by simp; omega
        simp [this]
    · have ih := fr_set h (vals := vals) hl (n := n) (a := a) (by omega)
      have : (n == i) = false := by simp; omega
      simp only [fr, this, Bool.or_false, ih]
      cases l n with
      | true => simp only [if_true]; exact Act.put_comm _ _ _ (dst_ne h e)
      | false => simp
theorem size_put (a : Act) (d : Option Tmp) (v : Value) : (a.put d v).tmps.size = a.tmps.size := by cases d <;> simp [Act.put]
theorem size_fr {vals : Nat → Value} {l : Nat → Bool} : ∀ {n : Nat} {a : Act}, (fr ops vals l n a).tmps.size = a.tmps.size
  | 0, _ => rfl
  | n + 1, a => by
    simp only [fr]
    split
    · rw [size_put, size_fr]
    · exact size_fr
theorem fr_get {vals : Nat → Value} {l l' : Nat → Bool} {t : Tmp} : ∀ {n : Nat} {a : Act}, (∀ j, j < n → dstAt ops j = some t → l j = l' j) →
    (fr ops vals l n a).tmps[t]? = (fr ops vals l' n a).tmps[t]?
  | 0, _, _ => rfl
  | n + 1, a, h => by
    have ih := fr_get (vals := vals) (n := n) (a := a) fun j hj => h j (by omega)
    have hput : ∀ (b : Act) (v : Value), dstAt ops n ≠ some t → (b.put (dstAt ops n) v).tmps[t]? = b.tmps[t]? := fun b v hne => by
      cases hd : dstAt ops n with
      | none => rfl
      | some d =>
        have hdt : d ≠ t := fun e => hne (by rw [hd, e])
        simp [Act.put, Array.getElem?_setIfInBounds_ne hdt]
    by_cases hd : dstAt ops n = some t
    · have e := h n (by omega) hd
      simp only [fr, e]
      split
      · simp only [Act.put, hd, Array.getElem?_setIfInBounds_self, size_fr]
      · exact ih
    · simp only [fr]
      split <;> split
      · rw [hput _ _ hd, hput _ _ hd]; exact ih
      · rw [hput _ _ hd]; exact ih
      · rw [hput _ _ hd]; exact ih
      · exact ih

theorem exec_same (h : tidy ops = true) {vals : Nat → Value} {L : Array Bool} {k n : Nat} {o : Oper} {a : Act} (ho : ops[k]? = some o) (hcl : Closed ops L) (hr : k ∈ Region.ready .any ops L) :
    execOp (fr ops vals (fun j => L.getD j false) n a).eval o = execOp (fr ops vals (fun j => decide (j < k)) n a).eval o ∧
    Region.wanted o (yielded ops (fr ops vals (fun j => L.getD j false) n a).tmps) = Region.wanted o (yielded ops (fr ops vals (fun j => decide (j < k)) n a).tmps) := by
  obtain ⟨hun, o', ho', hall⟩ := mem_ready.1 hr
  obtain rfl : o = o' := Option.some.inj (ho.symm.trans ho')
  have hunf := getD_both hun
  have key : ∀ t, t ∈ o.looksAt ops → (fr ops vals (fun j => L.getD j false) n a).tmps[t]? = (fr ops vals (fun j => decide (j < k)) n a).tmps[t]? := fun t ht => fr_get fun j _ hd => by
    unfold dstAt at hd
    cases hp : ops[j]? with
    | none => simp [hp] at hd
    | some p =>
      simp only [hp, Option.bind_some] at hd
      have hpair := tidy_pair h ho hp
      by_cases e : j = k
      · subst e; rw [hunf]; simp
      · have hc : (o.looksAt ops).contains t = true := by simpa using ht
        simp only [tidyPair, hd, hc] at hpair
        simp [e] at hpair
        rcases hpair.2 with hw | ⟨hlt, hw⟩
        · obtain ⟨o2, ho2, e2, he2, hb2, hon⟩ := Region.waitsFor_spec hw
          obtain rfl : o = o2 := Option.some.inj (ho.symm.trans ho2)
          have h1 := hall e2 he2 hb2
          have h2 := tidy_edge h ho e2 he2 hb2
          rw [hon] at h1 h2
          rw [h1]; simp [h2]
        · obtain ⟨p2, hp2, e2, he2, hb2, hon⟩ := Region.waitsFor_spec hw
          obtain rfl : p = p2 := Option.some.inj (hp.symm.trans hp2)
          cases hl : L.getD j false with
          | true =>
            have := hcl j p hp hl e2 he2 hb2
            rw [hon, hunf] at this
            cases this
          | false => simp; omega
  constructor
  · refine execOp_congr o (fun cs b => Region.noSelect_spec (by simp only [tidy, Bool.and_eq_true] at h; exact h.1) k o cs b ho) fun x hx => ?_
    cases x with
    | tmp t =>
      have ht : t ∈ o.looksAt ops := List.mem_append_left _ (List.mem_filterMap.2 ⟨.tmp t, by simpa using hx, rfl⟩)
      show Array.getD _ t undef = Array.getD _ t undef
      rw [Array.getD_eq_getD_getElem?, Array.getD_eq_getD_getElem?, key t ht]
    | _ => rfl
  · unfold Region.wanted
    cases hg : o.guard with
    | none => rfl
    | some gw =>
      obtain ⟨g, want⟩ := gw
      simp only
      congr 1
      unfold yielded
      cases hd : (ops[g]?).bind (·.dst) with
      | none => rfl
      | some d =>
        have ht : d ∈ o.looksAt ops := List.mem_append_right _ (by simp [hg, hd])
        simp only [Option.bind_some, key d ht]

theorem countP_one {l : List Nat} {i : Nat} {p q : Nat → Bool} (hp : p i = true) (hq : q i = false) (h : ∀ j, j ≠ i → q j = p j) : l.Nodup → i ∈ l → l.countP q + 1 = l.countP p := by
  induction l with
  | nil => intro _ hi; cases hi
  | cons x l ih =>
    intro hn hi
    rw [List.nodup_cons] at hn
    by_cases e : x = i
    · subst e
      rw [List.countP_cons, List.countP_cons, hp, hq]
      have : l.countP q = l.countP p := by
        apply List.countP_congr
        intro j hj
        rw [h j fun e => hn.1 (e ▸ hj)]
      simp [this]
    · rw [List.countP_cons, List.countP_cons, h x e]
      have hi' : i ∈ l := by
        cases hi with
        | head => exact absurd rfl e
        | tail _ h => exact h
      have := ih hn.2 hi'
      omega
theorem getD_up {L : Array Bool} {i : Nat} (hi : i < L.size) (h : L.getD i true = true) : L.getD i false = true := by
  simp [hi] at h ⊢; exact h
def cnt (n : Nat) (L : Array Bool) : Nat := (List.range n).countP fun i => !L.getD i true

theorem closed_set {L : Array Bool} (h : Closed ops L) {i : Nat} (hr : i ∈ Region.ready .any ops L) : Closed ops (L.setIfInBounds i true) := by
  obtain ⟨_, oi, hoi, hall⟩ := mem_ready.1 hr
  intro j o ho hl e he hb
  by_cases hij : i = j
  · subst hij
    obtain rfl : o = oi := Option.some.inj (ho.symm.trans hoi)
    exact getD_set_true (hall e he hb)
  · rw [getD_set_ne false hij] at hl
    exact getD_set_true (h j o ho hl e he hb)

/-- The head of a region: the first n operations, in whatever order; behind them the tail. -/
theorem head_any {Γ : Type} {n g : Nat} {Q : Exit → Act → World → Prop} {vals : Γ → Nat → Value} {C : Γ → Array Bool → World → Prop} {a0 : Act} (ht : tidy ops = true) (hn : n ≤ ops.size)
    (hstep : ∀ k o, k < n → ops[k]? = some o → ∀ γ L w, L.size = ops.size → Closed ops L → k ∈ Region.ready .any ops L → C γ L w →
      ∃ γ', (∀ j, L.getD j false = true → vals γ j = vals γ' j) ∧
      ((Region.wanted o (yielded ops (fr ops (vals γ) (fun j => decide (j < k)) ops.size a0).tmps) = true ∧ Gives P o (fr ops (vals γ) (fun j => decide (j < k)) ops.size a0) w (vals γ' k) (C γ' (L.setIfInBounds k true))) ∨
      (Region.wanted o (yielded ops (fr ops (vals γ) (fun j => decide (j < k)) ops.size a0).tmps) = false ∧ vals γ' k = undef ∧ C γ' (L.setIfInBounds k true) w)))
    (hsink : ∀ L, L.size = ops.size → Closed ops L → (∀ t, n ≤ t → t < ops.size → L.getD t true = false) → ∀ i, i < n → L.getD i true = false → ∀ t ∈ Region.ready .any ops L, t < n)
    (htail : ∀ γ L w, L.size = ops.size → (∀ i, i < n → L.getD i false = true) → (∀ t, n ≤ t → t < ops.size → L.getD t true = false) → C γ L w →
      wpAny P .any ops Q g L (fr ops (vals γ) (fun j => decide (j < n)) ops.size a0) w) :
    ∀ (f : Nat) (γ : Γ) (L : Array Bool) (w : World), L.size = ops.size → Closed ops L → (∀ t, n ≤ t → t < ops.size → L.getD t true = false) → cnt n L = f → C γ L w →
      wpAny P .any ops Q (f + g) L (fr ops (vals γ) (fun j => L.getD j false) ops.size a0) w
  | 0, γ, L, w, hs, hcl, htl, hc, hC => by
    have hall : ∀ i, i < n → L.getD i false = true := fun i hi => by
      have h1 : ∀ j ∈ List.range n, ¬ (!L.getD j true) = true := List.countP_eq_zero.1 hc
      have h2 := h1 i (List.mem_range.2 hi)
      exact getD_up (by omega) (by simpa using h2)
    rw [Nat.zero_add, fr_congr (l' := fun j => decide (j < n)) fun j hj => ?_]
    · exact htail γ L w hs hall htl hC
    · by_cases hjn : j < n
      · rw [hall j hjn]; simp [hjn]
      · rw [getD_both (htl j (by omega) hj)]; simp [hjn]
  | f + 1, γ, L, w, hs, hcl, htl, hc, hC => by
    rw [show f + 1 + g = (f + g) + 1 by omega]
    -- the least that has not come up may come up
    have hex : ∃ i, i < n ∧ L.getD i true = false := by
      have hpos : 0 < (List.range n).countP fun i => !L.getD i true := by unfold cnt at hc; omega
      obtain ⟨i, hi, h1⟩ := List.countP_pos_iff.1 hpos
      exact ⟨i, List.mem_range.1 hi, by simpa using h1⟩
    have hready : ∃ i, i ∈ Region.ready .any ops L := by
      obtain ⟨i, hi, hun⟩ := hex
      induction i using Nat.strongRecOn with
      | _ i ih =>
        by_cases hless : ∃ j, j < i ∧ L.getD j true = false
        · obtain ⟨j, hj, hjun⟩ := hless
          exact ih j hj (by omega) hjun
        · have hio : i < ops.size := by omega
          refine ⟨i, mem_ready.2 ⟨hun, ops[i], Array.getElem?_eq_getElem hio, fun e he hb => ?_⟩⟩
          have hlt := tidy_edge ht (Array.getElem?_eq_getElem hio) e he hb
          refine getD_up (by omega) ?_
          cases h0 : L.getD e.on true with
          | true => rfl
          | false => exact absurd ⟨e.on, hlt, h0⟩ hless
    obtain ⟨i0, hi0, hun0⟩ := hex
    refine ⟨fun h0 => (by obtain ⟨i, hi⟩ := hready; rw [h0] at hi; cases hi), fun i hi => ?_⟩
    have hin : i < n := hsink L hs hcl htl i0 hi0 hun0 i hi
    obtain ⟨hun, o, ho, _⟩ := mem_ready.1 hi
    have hio : i < ops.size := by omega
    obtain ⟨hex1, hex2⟩ := exec_same (vals := vals γ) (n := ops.size) (a := a0) ht ho hcl hi
    obtain ⟨γ', hag, hst⟩ := hstep i o hin ho γ L w hs hcl hi hC
    have hnext : ∀ w', C γ' (L.setIfInBounds i true) w' → wpAny P .any ops Q (f + g) (L.setIfInBounds i true) ((fr ops (vals γ) (fun j => L.getD j false) ops.size a0).put o.dst (vals γ' i)) w' := fun w' hC' => by
      have ih := head_any (g := g) (Q := Q) ht hn hstep hsink htail f γ' (L.setIfInBounds i true) w' (by simpa using hs) (closed_set hcl hi) (fun t h1 h2 => by rw [getD_set_ne true (by omega)]; exact htl t h1 h2)
        (by
          have h1 : cnt n (L.setIfInBounds i true) + 1 = cnt n L := by
            refine countP_one (i := i) (by simpa using hun) ?_ (fun j hj => by rw [getD_set_ne true (Ne.symm hj)]) List.nodup_range (List.mem_range.2 hin)
            simp [show i < L.size by omega]
          omega) hC'
      rw [fr_congr (l' := fun j => L.getD j false || j == i) fun j _ => ?_, fr_set ht (getD_both hun) hio, ← fr_vals fun j _ hj => hag j hj] at ih
      · unfold dstAt at ih; rw [ho] at ih; exact ih
      · by_cases e : j = i
        · subst e; simp [show j < L.size by omega]
        · have : (j == i) = false := by simpa using e
          rw [getD_set_ne false (Ne.symm e), this, Bool.or_false]
    unfold wpOp
    simp only [ho]
    rcases hst with ⟨hw, hg⟩ | ⟨hw, hv, hC'⟩
    · rw [hex2, if_pos hw]
      refine .inl (wp_of_gives (v := vals γ' i) (R := C γ' (L.setIfInBounds i true)) ?_ hnext)
      unfold Gives at hg ⊢
      rw [hex1]; exact hg
    · rw [hex2, hw, if_neg (by simp)]
      rw [← hv]
      exact hnext w hC'

/-! ### One class of worlds; the lexical walk -/
/-- The operations in the order of the text; C: the class of worlds that each is handed, and hands on. -/
def wpK (P : Program) (ops : Array Oper) (C : World → Prop) (Q : Act → Prop) : List Oper → Act → Prop
  | [], a => Q a
  | o :: rest, a => ∃ v, ((Region.wanted o (yielded ops a.tmps) = true ∧ ∀ w, C w → Gives P o a w v C) ∨ (Region.wanted o (yielded ops a.tmps) = false ∧ v = undef)) ∧ wpK P ops C Q rest (a.put o.dst v)
section
variable {C : World → Prop} {Qk : Act → Prop} {o : Oper} {rest : List Oper} {a : Act} {v : Value}
theorem wpK_nil (h : Qk a) : wpK P ops C Qk [] a := h
theorem wpK_val (hw : Region.wanted o (yielded ops a.tmps) = true) (h1 : ∀ w, C w → Gives P o a w v C) (h2 : wpK P ops C Qk rest (a.put o.dst v)) : wpK P ops C Qk (o :: rest) a := ⟨v, .inl ⟨hw, h1⟩, h2⟩
theorem wpK_not (hw : Region.wanted o (yielded ops a.tmps) = false) (h2 : wpK P ops C Qk rest (a.put o.dst undef)) : wpK P ops C Qk (o :: rest) a := ⟨undef, .inr ⟨hw, rfl⟩, h2⟩
theorem gives_value {w w' : World} {R : World → Prop} (h : (execOp a.eval o).run P w = .ok (.value v) w') (hR : R w') : Gives P o a w v R := by unfold Gives; rw [h]; exact ⟨rfl, hR⟩
theorem gives_skip {w w' : World} {R : World → Prop} (h : (execOp a.eval o).run P w = .ok .skip w') (hR : R w') : Gives P o a w undef R := by unfold Gives; rw [h]; exact ⟨rfl, hR⟩
theorem gives_enter {w w' : World} {R : World → Prop} {f : FuncId} {args : Array Value} (h : (execOp a.eval o).run P w = .ok (.enter f args) w') (hR : Calls P f args w' fun e w'' => e = .returned v ∧ R w'') : Gives P o a w v R := by unfold Gives; rw [h]; exact hR
end

/-- The frames of the lexical walk. -/
def lexF (l : List Oper) (vals : Nat → Value) : Nat → Act → Act
  | 0, a => a
  | i + 1, a => (lexF l vals i a).put ((l[i]?).bind (·.dst)) (vals i)
theorem lexF_cons {o : Oper} {l : List Oper} {vals : Nat → Value} : ∀ {i : Nat} {a : Act}, lexF (o :: l) vals (i + 1) a = lexF l (fun j => vals (j + 1)) i (a.put o.dst (vals 0))
  | 0, a => by simp [lexF]
  | i + 1, a => by
    have := lexF_cons (o := o) (l := l) (vals := vals) (i := i) (a := a)
    rw [lexF, this]
    simp [lexF]
theorem wpK_vals {C : World → Prop} {Qk : Act → Prop} : ∀ (l : List Oper) (a : Act), wpK P ops C Qk l a → ∃ vals : Nat → Value, Qk (lexF l vals l.length a) ∧
    ∀ i o, l[i]? = some o → ((Region.wanted o (yielded ops (lexF l vals i a).tmps) = true ∧ ∀ w, C w → Gives P o (lexF l vals i a) w (vals i) C) ∨ (Region.wanted o (yielded ops (lexF l vals i a).tmps) = false ∧ vals i = undef))
  | [], a, h => ⟨fun _ => undef, h, fun i o hi => by simp at hi⟩
  | o :: l, a, h => by
    obtain ⟨v, h1, h2⟩ := h
    obtain ⟨vals, hq, hs⟩ := wpK_vals l _ h2
    refine ⟨fun j => match j with | 0 => v | j + 1 => vals j, ?_, fun i o' hi => ?_⟩
    · rw [List.length_cons, lexF_cons]; exact hq
    · cases i with
      | zero =>
        simp only [List.getElem?_cons_zero, Option.some.injEq] at hi
        subst hi
        exact h1
      | succ i =>
        rw [lexF_cons]
        exact hs i o' (by simpa using hi)
theorem fr_stop {vals : Nat → Value} {k : Nat} : ∀ (d : Nat) (a : Act), fr ops vals (fun j => decide (j < k)) (k + d) a = fr ops vals (fun j => decide (j < k)) k a
  | 0, _ => rfl
  | d + 1, a => by
    rw [← Nat.add_assoc, fr, if_neg (by simp), fr_stop d a]
theorem lexF_fr {n : Nat} {vals : Nat → Value} {a : Act} (hn : n ≤ ops.size) : ∀ i, i ≤ n → lexF (ops.toList.take n) vals i a = fr ops vals (fun j => decide (j < i)) ops.size a := by
  intro i hi
  obtain ⟨d, hd⟩ : ∃ d, ops.size = i + d := ⟨ops.size - i, by omega⟩
  rw [hd, fr_stop]
  clear hd d
  induction i with
  | zero => rfl
  | succ i ih =>
    rw [lexF, ih (by omega), fr, if_pos (by simp)]
    rw [fr_congr (l := fun j => decide (j < i + 1)) (l' := fun j => decide (j < i)) fun j hj => by simp [hj]; omega]
    congr 1
    unfold dstAt
    rw [List.getElem?_take_of_lt (by omega)]
    simp

def tailL (n m : Nat) : Array Bool := (List.replicate n true ++ List.replicate m false).toArray
/-- The tail stands in a fixed order behind the n first; or there is none. -/
def tailB (ops : Array Oper) (n : Nat) : Bool :=
  decide (n = ops.size) || (decide (n < ops.size) && Region.sinkB .any ops n && Region.chainB .any ops n && Region.seqB .any ops (ops.size - n) n (tailL n (ops.size - n)))

theorem region_core {id : Nat} {Q : Exit → Act → World → Prop} {Γ : Type} {C : Γ → Array Bool → World → Prop} {a : Act} {w : World} {l : List Oper} (n : Nat) (hm : P.follows .mixedOrders = true) (ht : tidy l.toArray = true) (hB : tailB l.toArray n = true)
    (γ0 : Γ) (hC : C γ0 (Array.replicate l.length false) w.drew) (vals : Γ → Nat → Value)
    (hs : ∀ i o, (l.take n)[i]? = some o → ∀ γ L w, L.size = l.length → i ∈ Region.ready .any l.toArray L → C γ L w →
      ∃ γ', (∀ j, L.getD j false = true → vals γ j = vals γ' j) ∧
      ((Region.wanted o (yielded l.toArray (lexF (l.take n) (vals γ) i a).tmps) = true ∧ Gives P o (lexF (l.take n) (vals γ) i a) w (vals γ' i) (C γ' (L.setIfInBounds i true))) ∨
      (Region.wanted o (yielded l.toArray (lexF (l.take n) (vals γ) i a).tmps) = false ∧ vals γ' i = undef ∧ C γ' (L.setIfInBounds i true) w)))
    (hq : ∀ γ L w', (∀ i, i < n → L.getD i false = true) → C γ L w' → wpList P l.toArray Q (l.drop n) (lexF (l.take n) (vals γ) (l.take n).length a) w') : (Code.region id l.toArray true).wp P Q a w := by
  refine wp_region_any hm ?_
  have hn : n ≤ l.toArray.size := by
    simp only [tailB, Bool.or_eq_true, Bool.and_eq_true, decide_eq_true_eq] at hB
    rcases hB with h | h <;> omega
  have hlen : (l.take n).length = n := by rw [List.length_take]; simp at hn; omega
  simp only [hlen] at hq
  have hfr : ∀ (γ : Γ) i, i ≤ n → lexF (l.take n) (vals γ) i a = fr l.toArray (vals γ) (fun j => decide (j < i)) l.toArray.size a := fun γ i hi => by
    have := lexF_fr (ops := l.toArray) (vals := vals γ) (a := a) hn i hi
    simpa using this
  have H := head_any (P := P) (ops := l.toArray) (n := n) (g := l.toArray.size - n) (Q := Q) (vals := vals) (C := C) (a0 := a) ht hn
    (fun k o hk ho γ L w' hsz _ hr hC' => by
      have hko : (l.take n)[k]? = some o := by rw [List.getElem?_take_of_lt hk]; simpa using ho
      have := hs k o hko γ L w' (by simpa using hsz) hr hC'
      rwa [hfr γ k (by omega)] at this)
    (fun L hL hcl htl i hi hun t hr => by
      obtain ⟨hunt, o, ho, _⟩ := mem_ready.1 hr
      have hto : t < l.toArray.size := (Array.getElem?_eq_some_iff.1 ho).1
      simp only [tailB, Bool.or_eq_true, Bool.and_eq_true, decide_eq_true_eq] at hB
      rcases hB with hB | ⟨⟨⟨hB1, hB2⟩, hB3⟩, _⟩
      · omega
      · rcases Nat.lt_or_ge t n with h | h
        · exact h
        · exact absurd hr (tail_waits hB2 hB3 hB1 ⟨hL, hcl, htl⟩ _ i rfl hi hun t h))
    (fun γ L w' hL hall htl hC' => by
      rw [← hfr γ n (Nat.le_refl n)]
      have hlist := hq γ L w' hall hC'
      have hLe : L = tailL n (l.toArray.size - n) := by
        apply Array.ext_getElem?
        intro j
        unfold tailL
        rw [show ((List.replicate n true ++ List.replicate (l.toArray.size - n) false).toArray)[j]? = (List.replicate n true ++ List.replicate (l.toArray.size - n) false)[j]? from List.getElem?_toArray .., List.getElem?_append]
        simp only [List.length_replicate]
        by_cases hj : j < n
        · have := hall j hj
          rw [if_pos hj]
          simp [show j < L.size by omega] at this
          simp [hj, show j < L.size by omega, this]
        · rw [if_neg hj]
          by_cases hj2 : j < l.toArray.size
          · have := htl j (by omega) hj2
            simp [show j < L.size by omega] at this
            rw [Array.getElem?_eq_getElem (by omega), this, List.getElem?_replicate, if_pos (by omega)]
          · rw [Array.getElem?_eq_none (by omega), List.getElem?_replicate, if_neg (by omega)]
      simp only [tailB, Bool.or_eq_true, Bool.and_eq_true, decide_eq_true_eq] at hB
      rcases hB with hB | ⟨⟨⟨hB1, hB2⟩, hB3⟩, hB4⟩
      · rw [show l.toArray.size - n = 0 by omega]
        have hd : l.drop n = [] := List.drop_eq_nil_of_le (by simp at hB; omega)
        rw [hd] at hlist
        refine ⟨?_, hlist⟩
        apply List.eq_nil_iff_forall_not_mem.2
        intro t hr
        obtain ⟨hunt, o, ho, _⟩ := mem_ready.1 hr
        have hto : t < l.toArray.size := (Array.getElem?_eq_some_iff.1 ho).1
        have := hall t (by omega)
        rw [getD_both hunt] at this
        cases this
      · have hdl : (l.drop n).length = l.toArray.size - n := by simp
        have := wpAny_of_seq (P := P) (ops := l.toArray) (md := .any) (Q' := Q) (l.drop n) n L _ w' (fun j => by simp [List.getElem?_drop]) (by rw [hdl, hLe]; exact hB4) hlist
        rwa [hdl] at this)
    (cnt n (Array.replicate l.toArray.size false)) γ0 (Array.replicate l.toArray.size false) w.drew (by simp) (fun j o _ hl => by rw [getD_replicate_false] at hl; cases hl)
    (fun t _ hts => getD_in (by simpa using hts) (getD_replicate_false _ _)) rfl (by simpa using hC)
  have hc : cnt n (Array.replicate l.toArray.size false) = n := by
    unfold cnt
    have : ∀ i ∈ List.range n, (!(Array.replicate l.toArray.size false).getD i true) = true := fun i hi => by
      have hi' := List.mem_range.1 hi
      have : i < l.length := by simp at hn; omega
      simp [this]
    rw [List.countP_eq_length.2 this, List.length_range]
  rw [hc, show n + (l.toArray.size - n) = l.toArray.size by omega] at H
  have hz : fr l.toArray (vals γ0) (fun j => (Array.replicate l.toArray.size false).getD j false) l.toArray.size a = a := by
    rw [fr_congr (l' := fun j => decide (j < 0)) fun j _ => by rw [getD_replicate_false]; simp]
    have := fr_stop (ops := l.toArray) (vals := vals γ0) (k := 0) l.toArray.size a
    rw [Nat.zero_add] at this
    exact this
  rw [hz] at H
  exact H
theorem wp_region_tail {id : Nat} {Q : Exit → Act → World → Prop} {C : World → Prop} {a : Act} {w : World} {l : List Oper} (n : Nat) (hm : P.follows .mixedOrders = true) (ht : tidy l.toArray = true) (hB : tailB l.toArray n = true)
    (hC : C w.drew) (h : wpK P l.toArray C (fun a' => ∀ w', C w' → wpList P l.toArray Q (l.drop n) a' w') (l.take n) a) : (Code.region id l.toArray true).wp P Q a w := by
  obtain ⟨vals, hq, hs⟩ := wpK_vals _ _ h
  refine region_core (Γ := Unit) (C := fun _ _ w => C w) n hm ht hB () hC (fun _ => vals) (fun i o hi γ L w _ _ hC' => ⟨(), fun _ _ => rfl, ?_⟩) (fun _ L w' _ hC' => hq w' hC')
  rcases hs i o hi with ⟨h1, h2⟩ | ⟨h1, h2⟩
  · exact .inl ⟨h1, h2 w hC'⟩
  · exact .inr ⟨h1, h2, hC'⟩

/-! ### One operation among them writes: ahead of it the worlds are of 'C false', behind it of 'C true' -/
def wpS (P : Program) (ops : Array Oper) (s : Nat) (C : Bool → World → Prop) (Q : Act → Prop) : Nat → List Oper → Act → Prop
  | _, [], a => Q a
  | k, o :: rest, a => ∃ v, ((Region.wanted o (yielded ops a.tmps) = true ∧ ((k = s ∧ ∀ w, C false w → Gives P o a w v (C true)) ∨ (k ≠ s ∧ ∀ b w, C b w → Gives P o a w v (C b)))) ∨
      (Region.wanted o (yielded ops a.tmps) = false ∧ k ≠ s ∧ v = undef)) ∧ wpS P ops s C Q (k + 1) rest (a.put o.dst v)
section
variable {C : Bool → World → Prop} {Qk : Act → Prop} {o : Oper} {rest : List Oper} {a : Act} {v : Value} {k s : Nat}
theorem wpS_nil (h : Qk a) : wpS P ops s C Qk k [] a := h
theorem wpS_val (hk : k ≠ s) (hw : Region.wanted o (yielded ops a.tmps) = true) (h1 : ∀ b w, C b w → Gives P o a w v (C b)) (h2 : wpS P ops s C Qk (k + 1) rest (a.put o.dst v)) : wpS P ops s C Qk k (o :: rest) a :=
  ⟨v, .inl ⟨hw, .inr ⟨hk, h1⟩⟩, h2⟩
theorem wpS_put (hk : k = s) (hw : Region.wanted o (yielded ops a.tmps) = true) (h1 : ∀ w, C false w → Gives P o a w v (C true)) (h2 : wpS P ops s C Qk (k + 1) rest (a.put o.dst v)) : wpS P ops s C Qk k (o :: rest) a :=
  ⟨v, .inl ⟨hw, .inl ⟨hk, h1⟩⟩, h2⟩
end
theorem wpS_vals {s : Nat} {C : Bool → World → Prop} {Qk : Act → Prop} : ∀ (l : List Oper) (k : Nat) (a : Act), wpS P ops s C Qk k l a → ∃ vals : Nat → Value, Qk (lexF l vals l.length a) ∧
    ∀ i o, l[i]? = some o → ((Region.wanted o (yielded ops (lexF l vals i a).tmps) = true ∧ ((k + i = s ∧ ∀ w, C false w → Gives P o (lexF l vals i a) w (vals i) (C true)) ∨ (k + i ≠ s ∧ ∀ b w, C b w → Gives P o (lexF l vals i a) w (vals i) (C b)))) ∨
      (Region.wanted o (yielded ops (lexF l vals i a).tmps) = false ∧ k + i ≠ s ∧ vals i = undef))
  | [], _, a, h => ⟨fun _ => undef, h, fun i o hi => by simp at hi⟩
  | o :: l, k, a, h => by
    obtain ⟨v, h1, h2⟩ := h
    obtain ⟨vals, hq, hs⟩ := wpS_vals l (k + 1) _ h2
    refine ⟨fun j => match j with | 0 => v | j + 1 => vals j, ?_, fun i o' hi => ?_⟩
    · rw [List.length_cons, lexF_cons]; exact hq
    · cases i with
      | zero =>
        simp only [List.getElem?_cons_zero, Option.some.injEq] at hi
        subst hi
        exact h1
      | succ i =>
        rw [lexF_cons, show k + (i + 1) = k + 1 + i by omega]
        exact hs i o' (by simpa using hi)
theorem wp_region_put {id : Nat} {Q : Exit → Act → World → Prop} {C : Bool → World → Prop} {a : Act} {w : World} {l : List Oper} (s n : Nat) (hsn : s < n) (hm : P.follows .mixedOrders = true) (ht : tidy l.toArray = true) (hB : tailB l.toArray n = true)
    (hC : C false w.drew) (h : wpS P l.toArray s C (fun a' => ∀ w', C true w' → wpList P l.toArray Q (l.drop n) a' w') 0 (l.take n) a) : (Code.region id l.toArray true).wp P Q a w := by
  obtain ⟨vals, hq, hs⟩ := wpS_vals _ _ _ h
  have hset : ∀ (L : Array Bool) i, i ≠ s → (L.setIfInBounds i true).getD s false = L.getD s false := fun L i hi => getD_set_ne false hi
  refine region_core (Γ := Unit) (C := fun _ L w => C (L.getD s false) w) n hm ht hB () (by rw [getD_replicate_false]; exact hC) (fun _ => vals) (fun i o hi γ L w hsz hr hC' => ⟨(), fun _ _ => rfl, ?_⟩) (fun _ L w' hall hC' => hq w' (by rw [hall s hsn] at hC'; exact hC'))
  rcases hs i o hi with ⟨h1, ⟨h2, h3⟩ | ⟨h2, h3⟩⟩ | ⟨h1, h2, h3⟩
  · rw [Nat.zero_add] at h2
    subst h2
    have hun := getD_both (mem_ready.1 hr).1
    have hio := (mem_ready.1 hr).2
    obtain ⟨o', ho', _⟩ := hio
    have hlt : i < L.size := by
      have := (Array.getElem?_eq_some_iff.1 ho').1
      simp at this; omega
    have e1 : (L.setIfInBounds i true).getD i false = true := by simp [hlt]
    simp only [hun] at hC'
    simp only [e1]
    exact .inl ⟨h1, h3 w hC'⟩
  · rw [Nat.zero_add] at h2
    simp only [hset L i h2]
    exact .inl ⟨h1, h3 _ w hC'⟩
  · rw [Nat.zero_add] at h2
    simp only [hset L i h2]
    exact .inr ⟨h1, h3, hC'⟩
end
end Go.Proofs.Ytclmdakgkiponaa
set_option maxRecDepth 100000
namespace Go.Proofs.Ytclmdakgkiponaa
open Go.ChangeShapes Go.WideShapes Go.ChangeAt Go.RowKit
/-- n bytes. -/
def ar (n : Nat) (f : Nat → Nat) : Array Value := row n fun k => .int .u8 (f k : Nat)
section
variable {n k v : Nat} {f g : Nat → Nat}
theorem size_ar : (ar n f).size = n := size_row
theorem get_ar (h : k < n) : (ar n f)[k]? = some (.int .u8 (f k : Nat)) := get_row_lt h
theorem ar_ext (h : ∀ k, k < n → f k = g k) : ar n f = ar n g := row_ext fun k hk => by rw [h k hk]
theorem ar_inj (h : ar n f = ar n g) : ∀ k, k < n → f k = g k := fun k hk => by
  have := row_inj h k hk
  simp only [Value.int.injEq, true_and] at this
  exact Int.ofNat_inj.1 this
theorem ar_set : (ar n f).setIfInBounds k (.int .u8 (v : Nat)) = ar n fun j => if j = k then v else f j := by
  unfold ar
  rw [row_set]
  exact row_ext fun j _ => by by_cases e : j = k <;> simp [e]
theorem ar_one : (ar n f).all (·.oneCell') = true := row_one fun _ _ => rfl
theorem ar_list_get {j : Nat} {v : Value} (h : (ar n f).toList[j]? = some v) : j < n ∧ v = .int .u8 (f j : Nat) := by
  rw [Array.getElem?_toList] at h
  by_cases hj : j < n
  · rw [get_ar hj] at h; exact ⟨hj, (Option.some.inj h).symm⟩
  · rw [ar, get_row, if_neg hj] at h; cases h
theorem ar_getD {j : Nat} (h : j < n) : (ar n f).toList.getD j undef = .int .u8 (f j : Nat) := by
  rw [List.getD_eq_getElem?_getD, Array.getElem?_toList, get_ar h]; rfl
/-- A loop over bytes: behind k rounds the first k are turned. -/
def upTo (k : Nat) (f h : Nat → Nat) : Nat → Nat := fun j => if j < k then h j else f j
theorem upTo_zero {f h : Nat → Nat} : upTo 0 f h = f := by funext j; simp [upTo]
theorem upTo_at {k : Nat} {f h : Nat → Nat} : upTo k f h k = f k := by simp [upTo]
theorem upTo_step {w : World} {b n k : Nat} {t : TypeId} {f h : Nat → Nat} (hb : Blk w b t ((ar n (upTo k f h)).setIfInBounds k (.int .u8 (h k : Nat)))) : Blk w b t (ar n (upTo (k + 1) f h)) := by
  rw [ar_set] at hb
  rw [ar_ext (g := fun j => if j = k then h k else upTo k f h j) fun j _ => ?_]
  · exact hb
  · unfold upTo
    by_cases e : j = k
    · subst e; simp
    · simp only [e, if_false]
      by_cases h2 : j < k
      · rw [if_pos h2, if_pos (by omega)]
      · rw [if_neg h2, if_neg (by omega)]
theorem upTo_all {n : Nat} {f h : Nat → Nat} {k : Nat} (hk : n ≤ k) : ar n (upTo k f h) = ar n h := ar_ext fun j hj => by unfold upTo; rw [if_pos (by omega)]
theorem Blk.arRange {w : World} {b o m : Nat} {t : TypeId} (hb : Blk w b t (ar n f)) (h : o + m ≤ n) : w.rangeAt b o (ar m fun k => f (o + k)).toList := fun j v hv => by
  obtain ⟨h1, rfl⟩ := ar_list_get hv
  rw [hb.cell, get_ar (by omega)]
/-- The bytes from place o on replaced. -/
def putA (o m : Nat) (f h : Nat → Nat) : Nat → Nat := fun j => if o ≤ j ∧ j < o + m then h (j - o) else f j
theorem Blk.arPut {w : World} {b o m : Nat} {t : TypeId} {h : Nat → Nat} (hb : Blk w b t (ar n f)) (hm : o + m ≤ n) : Blk (w.setCells b o (ar m h).toList) b t (ar n (putA o m f h)) ∧ Below b w (w.setCells b o (ar m h).toList) := by
  have hl : (ar m h).toList.length = m := by rw [Array.length_toList, size_ar]
  obtain ⟨h1, h2⟩ := blk_setCells (ar m h).toList o w _ hb (by rw [hl]; omega)
  refine ⟨?_, h2⟩
  have e : (row n fun j => if o ≤ j ∧ j < o + (ar m h).toList.length then (ar m h).toList.getD (j - o) undef else Value.int .u8 (f j : Nat)) = ar n (putA o m f h) := row_ext fun j _ => by
    rw [hl]
    show _ = Value.int .u8 ((if o ≤ j ∧ j < o + m then h (j - o) else f j : Nat) : Int)
    by_cases e : o ≤ j ∧ j < o + m
    · rw [if_pos e, if_pos e, ar_getD (by omega)]
    · rw [if_neg e, if_neg e]
  rw [e] at h1
  exact h1
theorem Blk.there {w : World} {b o m N : Nat} {t : TypeId} {F : Nat → Value} (hb : Blk w b t (row N F)) (hm : o + m ≤ N) : w.there b o m := fun j hj => by
  refine ⟨?_, hb.frozen _⟩
  rw [hb.cell, get_row_lt (by omega)]; rfl
end
/-- Of type T is a row of n bytes. -/
structure ArT (T : TypeId) (n : Nat) : Prop where
  size : (Try.prog.info? T).map (·.size) = some n
  desc : ∃ d, Try.prog.underlying T = some d ∧ d.isRow = true
  zero : ∀ w, (zeroValue T).run Try.prog w = .ok (.agg (ar n fun _ => 0)) w
section
variable {ops : Array Oper} {Q : Exit → Act → World → Prop} {a : Act} {w : World} {rest : List Oper} {dst : Option Tmp} {ty : TypeId} {pos : String} {after : Array Edge} {x y : Operand} {g o n m : Nat} {f f0 : Nat → Nat} {T t : TypeId}
theorem Blk.head (hb : Blk w g t (ar n f)) : w.rangeAt g 0 (ar n f).toList := by
  have h := hb.arRange (o := 0) (m := n) (by omega)
  rw [ar_ext (g := f) fun k _ => by rw [Nat.zero_add]] at h
  exact h
theorem ldAm (hT : ArT T n) (hx : a.eval x = .pointer (some ⟨g, o, none⟩)) (hb : w.rangeAt g o (ar n f).toList) (h : wpList Try.prog ops Q rest (a.put dst (.agg (ar n f))) w) :
    wpList Try.prog ops Q (⟨dst, .load T x, ty, pos, after, none⟩ :: rest) a w := by
  obtain ⟨d, h1, h2⟩ := hT.desc
  exact step_load_mid hb h1 h2 (hT.size.trans (by rw [Array.length_toList, size_ar])) hx (by rw [Array.toArray_toList]; exact h)
theorem ldA (hT : ArT T n) (hx : a.eval x = .pointer (some ⟨g, 0, none⟩)) (hb : Blk w g t (ar n f)) (h : wpList Try.prog ops Q rest (a.put dst (.agg (ar n f))) w) :
    wpList Try.prog ops Q (⟨dst, .load T x, ty, pos, after, none⟩ :: rest) a w := ldAm hT hx hb.head h
theorem stA (hT : ArT T n) (hx : a.eval x = .pointer (some ⟨g, 0, none⟩)) (hy : a.eval y = .agg (ar n f)) (hb : Blk w g t (ar n f0)) (h : wpList Try.prog ops Q rest (a.put dst undef) (w.setRow g (ar n f))) :
    wpList Try.prog ops Q (⟨dst, .store T x y, ty, pos, after, none⟩ :: rest) a w :=
  step_store_row hb (hT.size.trans (by rw [size_ar])) (by rw [size_ar, size_ar]) ar_one hx hy h
theorem run_alloc_ar (hT : ArT T n) (w : World) : (Instr.alloc T true (.tuple #[])).run Try.prog w = .ok (.pointer (some ⟨w.heap.size, 0, none⟩)) (w.alloc (.cells (ar n fun _ => 0) T)) := by
  simp [Instr.alloc, Sem.run_bind, hT.zero w, newVar, newRow, Value.cells]
theorem alA (hT : ArT T n) (h : wpList Try.prog ops Q rest (a.put dst (.pointer (some ⟨w.heap.size, 0, none⟩))) (w.alloc (.cells (ar n fun _ => 0) T))) :
    wpList Try.prog ops Q (⟨dst, .alloc T, ty, pos, after, none⟩ :: rest) a w := by
  refine wpList_plain rfl fun K hK => ?_
  unfold Oper.wp execOp
  simp only [Sem.run_bind, run_alloc_ar hT w, Result.andThen_ok, Sem.run_pure]
  exact hK _ _ h
theorem run_ldm (hT : ArT T n) {w : World} (hb : w.rangeAt g o (ar n f).toList) : (Instr.loadAt T (.pointer (some ⟨g, o, none⟩))).run Try.prog w = .ok (.agg (ar n f)) w := by
  obtain ⟨d, h1, h2⟩ := hT.desc
  have := run_loadAt_mid (P := Try.prog) w g o T (ar n f).toList _ hb h1 h2 (hT.size.trans (by rw [Array.length_toList, size_ar]))
  rwa [Array.toArray_toList] at this
section
variable {C : World → Prop} {Qk : Act → Prop} {gd : Option (Nat × Bool)}
theorem kldA (hT : ArT T n) (hwt : Region.wanted ⟨dst, .load T x, ty, pos, after, gd⟩ (yielded ops a.tmps) = true) (hx : a.eval x = .pointer (some ⟨g, o, none⟩)) (hb : ∀ w, C w → w.rangeAt g o (ar n f).toList) (h : wpK Try.prog ops C Qk rest (a.put dst (.agg (ar n f)))) :
    wpK Try.prog ops C Qk (⟨dst, .load T x, ty, pos, after, gd⟩ :: rest) a :=
  wpK_val hwt (fun w hw => gives_value (w' := w) (by simp only [execOp, hx, Sem.run_bind, run_ldm hT (hb w hw), Result.andThen_ok, Sem.run_pure]) hw) h
end
theorem ret_ar {fn : Func} {R : Ending → World → Prop} {p : Tmp} (hT : ArT T n) (hr : fn.results = #[.cell p T]) (hp : a.tmps.getD p undef = .pointer (some ⟨g, 0, none⟩)) (hdf : a.defers = [])
    (hb : Blk w g t (ar n f)) (hR : R (.returned (.agg (ar n f))) w) : bodyPost Try.prog fn R .ret a w := by
  obtain ⟨d, h1, h2⟩ := hT.desc
  exact ret_row hr hb h1 h2 (hT.size.trans (by rw [size_ar])) hp hdf hR
end
theorem run_index_ar {T : TypeId} {n k : Nat} {f : Nat → Nat} (hT : Try.prog.underlying T = some (.array n 5)) (hk : k < n) (w : World) : (Instr.index T (.agg (ar n f)) (.int .i64 k)).run Try.prog w = .ok (.int .u8 (f k : Nat)) w := by
  have h1 : (0 : Int) ≤ (k : Int) ∧ (k : Int) < n := by omega
  have hz : (Try.prog.info? 5).map (·.size) = some 1 := by kernel_rfl
  simp [Instr.index, run_underlying hT, asIntOf, h1, go_sem]
  rw [if_pos hk, get_ar hk]; rfl
def eqA (n : Nat) (f g : Nat → Nat) : Bool := eqN n (fun k => f k) fun k => g k
theorem eqA_iff {n : Nat} {f g : Nat → Nat} : eqA n f g = true ↔ ∀ k, k < n → f k = g k := by
  unfold eqA eqN
  rw [List.all_eq_true]
  constructor
  · intro h k hk
    have := h k (List.mem_range.2 hk)
    exact Int.ofNat_inj.1 (beq_iff_eq.1 this)
  · intro h k hk
    have := h k (List.mem_range.1 hk)
    exact beq_iff_eq.2 (congrArg _ this)
theorem eqA_yes {n : Nat} {f g : Nat → Nat} (h : ∀ k, k < n → f k = g k) : eqA n f g = true := eqA_iff.2 h
theorem eqA_no {n : Nat} {f g : Nat → Nat} (h : ¬ ∀ k, k < n → f k = g k) : eqA n f g = false := by
  cases e : eqA n f g with
  | false => rfl
  | true => exact absurd (eqA_iff.1 e) h
theorem run_eql_ar {T : TypeId} {n : Nat} (hT : Try.prog.underlying T = some (.array n 5)) (w : World) (f g : Nat → Nat) : (binOp .eql T (.agg (ar n f)) (.agg (ar n g))).run Try.prog w = .ok (.bool (eqA n f g)) w := by
  rw [run_eql_struct]
  have := run_equalIn_row (P := Try.prog) (d := 9998) (t := T) (e := 5) (k := .u8) (n := n) (f := fun k => f k) (g := fun k => g k) hT Try.underlying5 (by kernel_rfl) w
  unfold ar
  rw [this]
  rfl
theorem run_neq_ar {T : TypeId} {n : Nat} (hT : Try.prog.underlying T = some (.array n 5)) (w : World) (f g : Nat → Nat) : (binOp .neq T (.agg (ar n f)) (.agg (ar n g))).run Try.prog w = .ok (.bool (!eqA n f g)) w := by
  rw [run_neq_struct]
  have := run_equalIn_row (P := Try.prog) (d := 9998) (t := T) (e := 5) (k := .u8) (n := n) (f := fun k => f k) (g := fun k => g k) hT Try.underlying5 (by kernel_rfl) w
  unfold ar
  rw [this]
  rfl
theorem extract_ar {N m o : Nat} {f : Nat → Nat} (h : o + m ≤ N) : (ar N f).extract o (o + m) = ar m fun i => f (o + i) := by
  apply Array.ext_getElem?
  intro k
  rw [Array.getElem?_extract]
  by_cases hk : k < m
  · rw [if_pos (by rw [size_ar]; omega), get_ar (by omega), get_ar hk]
  · rw [if_neg (by rw [size_ar]; omega), ar, get_row, if_neg hk]
theorem size_of {T : TypeId} {m : Nat} (hT : ArT T m) (w : World) : (sizeOf T).run Try.prog w = .ok m w := by
  have h := hT.size
  cases hi : Try.prog.info? T with
  | none => rw [hi] at h; cases h
  | some i => rw [hi] at h; simp at h; simp [sizeOf, typeInfo, hi, h]
section
variable {a : Act} {w : World} {g h n m : Nat} {f f' : Nat → Nat} {T U : TypeId}
theorem run_ar_var {t : TypeId} (hT : ArT T n) (hb : Blk w g t (ar n f)) : (loadVar T ⟨g, 0, none⟩).run Try.prog w = .ok (.agg (ar n f)) w := by
  obtain ⟨d, h1, h2⟩ := hT.desc
  have := run_loadVar_mid (P := Try.prog) w g 0 T (ar n f).toList _ hb.head h1 h2 (hT.size.trans (by rw [Array.length_toList, size_ar]))
  rwa [Array.toArray_toList] at this
theorem ret_ar2 {t u : TypeId} {fn : Func} {R : Ending → World → Prop} {p q : Tmp} (hT : ArT T n) (hU : ArT U m) (hr : fn.results = #[.cell p T, .cell q U]) (hp : a.tmps.getD p undef = .pointer (some ⟨g, 0, none⟩)) (hq : a.tmps.getD q undef = .pointer (some ⟨h, 0, none⟩))
    (hdf : a.defers = []) (hb : Blk w g t (ar n f)) (hb' : Blk w h u (ar m f')) (hR : R (.returned (.tuple #[.agg (ar n f), .agg (ar m f')])) w) : bodyPost Try.prog fn R .ret a w := by
  refine bodyPost_ret ?_ hdf hR
  have hp' : a.tmps[p]?.getD undef = .pointer (some ⟨g, 0, none⟩) := by simpa using hp
  have hq' : a.tmps[q]?.getD undef = .pointer (some ⟨h, 0, none⟩) := by simpa using hq
  simp [results, hr, hp', hq', asAddr, run_ar_var hT hb, run_ar_var hU hb']
end
end Go.Proofs.Ytclmdakgkiponaa
set_option maxRecDepth 100000
namespace Go.Proofs.Ytclmdakgkiponaa
open Go.RowKit
section
variable {P : Program} {ops : Array Oper}
/-- The operations in the order of the text; each hands on a world of the class, in which all that was there stands. -/
def wpB (P : Program) (ops : Array Oper) (C : World → Prop) (Q : Act → Prop) : List Oper → Act → Prop
  | [], a => Q a
  | o :: rest, a => ∃ v, ((Region.wanted o (yielded ops a.tmps) = true ∧ ∀ w, C w → Gives P o a w v fun w' => C w' ∧ Below w.heap.size w w') ∨ (Region.wanted o (yielded ops a.tmps) = false ∧ v = undef)) ∧ wpB P ops C Q rest (a.put o.dst v)
section
variable {C : World → Prop} {Qk : Act → Prop} {o : Oper} {rest : List Oper} {a : Act} {v : Value}
theorem wpB_nil (h : Qk a) : wpB P ops C Qk [] a := h
theorem wpB_val (hw : Region.wanted o (yielded ops a.tmps) = true) (h1 : ∀ w, C w → Gives P o a w v fun w' => C w' ∧ Below w.heap.size w w') (h2 : wpB P ops C Qk rest (a.put o.dst v)) : wpB P ops C Qk (o :: rest) a := ⟨v, .inl ⟨hw, h1⟩, h2⟩
end
theorem wpB_vals {C : World → Prop} {Qk : Act → Prop} : ∀ (l : List Oper) (a : Act), wpB P ops C Qk l a → ∃ vals : Nat → Value, Qk (lexF l vals l.length a) ∧
    ∀ i o, l[i]? = some o → ((Region.wanted o (yielded ops (lexF l vals i a).tmps) = true ∧ ∀ w, C w → Gives P o (lexF l vals i a) w (vals i) fun w' => C w' ∧ Below w.heap.size w w') ∨ (Region.wanted o (yielded ops (lexF l vals i a).tmps) = false ∧ vals i = undef))
  | [], a, h => ⟨fun _ => undef, h, fun i o hi => by simp at hi⟩
  | o :: l, a, h => by
    obtain ⟨v, h1, h2⟩ := h
    obtain ⟨vals, hq, hs⟩ := wpB_vals l _ h2
    refine ⟨fun j => match j with | 0 => v | j + 1 => vals j, ?_, fun i o' hi => ?_⟩
    · rw [List.length_cons, lexF_cons]; exact hq
    · cases i with
      | zero =>
        simp only [List.getElem?_cons_zero, Option.some.injEq] at hi
        subst hi
        exact h1
      | succ i =>
        rw [lexF_cons]
        exact hs i o' (by simpa using hi)
theorem lexF_congr {l l' : List Oper} {v v' : Nat → Value} : ∀ {i : Nat} {a : Act}, (∀ j, j < i → l[j]? = l'[j]? ∧ v j = v' j) → lexF l v i a = lexF l' v' i a
  | 0, _, _ => rfl
  | i + 1, a, h => by
    simp only [lexF, lexF_congr (i := i) (a := a) fun j hj => h j (by omega), (h i (by omega)).1, (h i (by omega)).2]
theorem gives_mono {o : Oper} {a : Act} {w : World} {v : Value} {R R' : World → Prop} (h : Gives P o a w v R) (hr : ∀ w', R w' → R' w') : Gives P o a w v R' := by
  unfold Gives at *
  generalize (execOp a.eval o).run P w = r at *
  cases r with
  | ok n w' =>
    cases n <;> simp only at h ⊢
    case value u => exact ⟨h.1, hr _ h.2⟩
    case skip => exact ⟨h.1, hr _ h.2⟩
    case enter f args => exact h.mono fun e w'' ⟨he, hR⟩ => ⟨he, hr _ hR⟩
  | halt x w' => exact h
def ptr (b : Nat) : Value := .pointer (some ⟨b, 0, none⟩)
theorem wp_region_new2 {id : Nat} {Q : Exit → Act → World → Prop} {C : World → Prop} {a : Act} {w : World} {l : List Oper} (n : Nat) (T : TypeId) (z : Array Value) (d1 d2 : Tmp) {t1 t2 : TypeId} {p1 p2 : String} {e1 e2 : Array Edge}
    (hl1 : l[n]? = some ⟨some d1, .alloc T, t1, p1, e1, none⟩) (hl2 : l[n + 1]? = some ⟨some d2, .alloc T, t2, p2, e2, none⟩)
    (hm : P.follows .mixedOrders = true) (ht : tidy l.toArray = true) (hB : tailB l.toArray (n + 2) = true)
    (ha : ∀ w, (Instr.alloc T true (.tuple #[])).run P w = .ok (.pointer (some ⟨w.heap.size, 0, none⟩)) (w.alloc (.cells z T)))
    (hC : C w.drew) (hCa : ∀ w, C w → C (w.alloc (.cells z T))) (hCs : ∀ w', C w' → w.heap.size ≤ w'.heap.size)
    (h : wpB P l.toArray C (fun a' => ∀ b1 b2 w', b1 ≠ b2 → C w' → Blk w' b1 T z → Blk w' b2 T z → w.heap.size ≤ b1 → w.heap.size ≤ b2 →
      wpList P l.toArray Q (l.drop (n + 2)) ((a'.put (some d1) (ptr b1)).put (some d2) (ptr b2)) w') (l.take n) a) : (Code.region id l.toArray true).wp P Q a w := by
  obtain ⟨vals, hq, hs⟩ := wpB_vals _ _ h
  have hln : n + 1 < l.length := (List.getElem?_eq_some_iff.1 hl2).1
  have hlen : (l.take n).length = n := by rw [List.length_take]; omega
  let V : Nat × Nat → Nat → Value := fun γ i => if i = n then ptr γ.1 else if i = n + 1 then ptr γ.2 else vals i
  have hV : ∀ γ i, i < n → V γ i = vals i := fun γ i hi => by show (if _ then _ else _) = _; rw [if_neg (by omega), if_neg (by omega)]
  have hfr : ∀ γ i, i ≤ n → lexF (l.take (n + 2)) (V γ) i a = lexF (l.take n) vals i a := fun γ i hi => lexF_congr fun j hj =>
    ⟨by rw [List.getElem?_take_of_lt (by omega), List.getElem?_take_of_lt (by omega)], hV γ j (by omega)⟩
  refine region_core (Γ := Nat × Nat) (C := fun γ L w' => C w' ∧ (L.getD n false = true → Blk w' γ.1 T z ∧ w.heap.size ≤ γ.1) ∧ (L.getD (n + 1) false = true → Blk w' γ.2 T z ∧ w.heap.size ≤ γ.2) ∧
      (L.getD n false = true → L.getD (n + 1) false = true → γ.1 ≠ γ.2)) (n + 2) hm ht hB (0, 0)
    ⟨hC, (fun h => by rw [getD_replicate_false] at h; cases h), (fun h => by rw [getD_replicate_false] at h; cases h), (fun h => by rw [getD_replicate_false] at h; cases h)⟩ V ?_ ?_
  · intro i o hi γ L w' hsz hr ⟨hC', g1, g2, g3⟩
    have hilt : i < n + 2 := by
      have := (List.getElem?_eq_some_iff.1 hi).1
      rw [List.length_take] at this; omega
    rw [List.getElem?_take_of_lt hilt] at hi
    have hun := getD_both (mem_ready.1 hr).1
    rcases Nat.lt_or_ge i n with hin | hin
    · -- no allocation
      have hset : ∀ k, k ≠ i → (L.setIfInBounds i true).getD k false = L.getD k false := fun k hk => getD_set_ne false (Ne.symm hk)
      refine ⟨γ, fun _ _ => rfl, ?_⟩
      rw [hfr γ i (by omega), hV γ i hin]
      simp only [hset n (by omega), hset (n + 1) (by omega)]
      rcases hs i o (by rw [List.getElem?_take_of_lt hin]; exact hi) with ⟨h1, h2⟩ | ⟨h1, h2⟩
      · exact .inl ⟨h1, gives_mono (h2 w' hC') fun w'' ⟨h3, h4⟩ => ⟨h3, fun e => ⟨(g1 e).1.below h4 (g1 e).1.lt, (g1 e).2⟩, fun e => ⟨(g2 e).1.below h4 (g2 e).1.lt, (g2 e).2⟩, g3⟩⟩
      · exact .inr ⟨h1, h2, hC', g1, g2, g3⟩
    · have hw : ∀ b : Act, (execOp b.eval ⟨some d1, .alloc T, t1, p1, e1, none⟩).run P w' = .ok (.value (.pointer (some ⟨w'.heap.size, 0, none⟩))) (w'.alloc (.cells z T)) := fun b => by
        simp only [execOp, Sem.run_bind, ha w', Result.andThen_ok, Sem.run_pure]
      have hw2 : ∀ b : Act, (execOp b.eval ⟨some d2, .alloc T, t2, p2, e2, none⟩).run P w' = .ok (.value (.pointer (some ⟨w'.heap.size, 0, none⟩))) (w'.alloc (.cells z T)) := fun b => by
        simp only [execOp, Sem.run_bind, ha w', Result.andThen_ok, Sem.run_pure]
      by_cases hi1 : i = n
      · subst hi1
        obtain rfl : _ = o := Option.some.inj (hl1.symm.trans hi)
        refine ⟨(w'.heap.size, γ.2), fun j hj => ?_, .inl ⟨rfl, ?_⟩⟩
        · have hjn : j ≠ i := fun e => by subst e; rw [hun] at hj; cases hj
          simp only [V, if_neg hjn]
        · refine gives_value (w' := w'.alloc (.cells z T)) ?_ ?_
          · rw [hw]
            simp only [V, if_pos]; rfl
          · refine ⟨hCa _ hC', fun _ => ⟨Blk.new _ _ _, hCs _ hC'⟩, fun e => ?_, fun _ e => ?_⟩
            · rw [getD_set_ne false (by omega)] at e
              exact ⟨(g2 e).1.alloc _, (g2 e).2⟩
            · rw [getD_set_ne false (by omega)] at e
              have := (g2 e).1.lt
              exact Nat.ne_of_gt this
      · obtain rfl : i = n + 1 := by omega
        obtain rfl : _ = o := Option.some.inj (hl2.symm.trans hi)
        refine ⟨(γ.1, w'.heap.size), fun j hj => ?_, .inl ⟨rfl, ?_⟩⟩
        · have hj2 : j ≠ n + 1 := fun e => by subst e; rw [hun] at hj; cases hj
          simp only [V, if_neg hj2]
        · refine gives_value (w' := w'.alloc (.cells z T)) ?_ ?_
          · rw [hw2]
            simp only [V, if_neg (show ¬ n + 1 = n by omega), if_pos]; rfl
          · refine ⟨hCa _ hC', fun e => ?_, fun _ => ⟨Blk.new _ _ _, hCs _ hC'⟩, fun e _ => ?_⟩
            · rw [getD_set_ne false (by omega)] at e
              exact ⟨(g1 e).1.alloc _, (g1 e).2⟩
            · rw [getD_set_ne false (by omega)] at e
              have := (g1 e).1.lt
              exact Nat.ne_of_lt this
  · intro γ L w' hall ⟨hC', g1, g2, g3⟩
    have h1 := hall n (by omega)
    have h2 := hall (n + 1) (by omega)
    have hl2' : (l.take (n + 2)).length = n + 2 := by rw [List.length_take]; omega
    rw [hl2']
    have hput : lexF (l.take (n + 2)) (V γ) (n + 2) a = ((lexF (l.take n) vals n a).put (some d1) (ptr γ.1)).put (some d2) (ptr γ.2) := by
      rw [lexF, lexF, hfr γ n (Nat.le_refl n), List.getElem?_take_of_lt (by omega), List.getElem?_take_of_lt (by omega), hl1, hl2]
      simp only [V, if_neg (show ¬ n + 1 = n by omega), if_pos, Option.bind_some]
    rw [hput]
    rw [hlen] at hq
    exact hq γ.1 γ.2 w' (g3 h1 h2) hC' (g1 h1).1 (g2 h2).1 (g1 h1).2 (g2 h2).2
end
end Go.Proofs.Ytclmdakgkiponaa
set_option maxRecDepth 100000
namespace Go.Proofs.Ytclmdakgkiponaa
open Go.RowKit
section
variable {P : Program} {ops : Array Oper}
theorem wp_region_new1 {id : Nat} {Q : Exit → Act → World → Prop} {C : World → Prop} {a : Act} {w : World} {l : List Oper} (n : Nat) (T : TypeId) (z : Array Value) (d1 : Tmp) {t1 : TypeId} {p1 : String} {e1 : Array Edge}
    (hl1 : l[n]? = some ⟨some d1, .alloc T, t1, p1, e1, none⟩)
    (hm : P.follows .mixedOrders = true) (ht : tidy l.toArray = true) (hB : tailB l.toArray (n + 1) = true)
    (ha : ∀ w, (Instr.alloc T true (.tuple #[])).run P w = .ok (.pointer (some ⟨w.heap.size, 0, none⟩)) (w.alloc (.cells z T)))
    (hC : C w.drew) (hCa : ∀ w, C w → C (w.alloc (.cells z T))) (hCs : ∀ w', C w' → w.heap.size ≤ w'.heap.size)
    (h : wpB P l.toArray C (fun a' => ∀ b1 w', C w' → Blk w' b1 T z → w.heap.size ≤ b1 →
      wpList P l.toArray Q (l.drop (n + 1)) (a'.put (some d1) (ptr b1)) w') (l.take n) a) : (Code.region id l.toArray true).wp P Q a w := by
  obtain ⟨vals, hq, hs⟩ := wpB_vals _ _ h
  have hln : n < l.length := (List.getElem?_eq_some_iff.1 hl1).1
  have hlen : (l.take n).length = n := by rw [List.length_take]; omega
  let V : Nat → Nat → Value := fun γ i => if i = n then ptr γ else vals i
  have hV : ∀ γ i, i < n → V γ i = vals i := fun γ i hi => by show (if _ then _ else _) = _; rw [if_neg (by omega)]
  have hfr : ∀ γ i, i ≤ n → lexF (l.take (n + 1)) (V γ) i a = lexF (l.take n) vals i a := fun γ i hi => lexF_congr fun j hj =>
    ⟨by rw [List.getElem?_take_of_lt (by omega), List.getElem?_take_of_lt (by omega)], hV γ j (by omega)⟩
  refine region_core (Γ := Nat) (C := fun γ L w' => C w' ∧ (L.getD n false = true → Blk w' γ T z ∧ w.heap.size ≤ γ)) (n + 1) hm ht hB 0
    ⟨hC, (fun h => by rw [getD_replicate_false] at h; cases h)⟩ V ?_ ?_
  · intro i o hi γ L w' hsz hr ⟨hC', g1⟩
    have hilt : i < n + 1 := by
      have := (List.getElem?_eq_some_iff.1 hi).1
      rw [List.length_take] at this; omega
    rw [List.getElem?_take_of_lt hilt] at hi
    have hun := getD_both (mem_ready.1 hr).1
    rcases Nat.lt_or_ge i n with hin | hin
    · have hset : ∀ k, k ≠ i → (L.setIfInBounds i true).getD k false = L.getD k false := fun k hk => getD_set_ne false (Ne.symm hk)
      refine ⟨γ, fun _ _ => rfl, ?_⟩
      rw [hfr γ i (by omega), hV γ i hin]
      simp only [hset n (by omega)]
      rcases hs i o (by rw [List.getElem?_take_of_lt hin]; exact hi) with ⟨h1, h2⟩ | ⟨h1, h2⟩
      · exact .inl ⟨h1, gives_mono (h2 w' hC') fun w'' ⟨h3, h4⟩ => ⟨h3, fun e => ⟨(g1 e).1.below h4 (g1 e).1.lt, (g1 e).2⟩⟩⟩
      · exact .inr ⟨h1, h2, hC', g1⟩
    · obtain rfl : i = n := by omega
      obtain rfl : _ = o := Option.some.inj (hl1.symm.trans hi)
      have hw : ∀ b : Act, (execOp b.eval ⟨some d1, .alloc T, t1, p1, e1, none⟩).run P w' = .ok (.value (.pointer (some ⟨w'.heap.size, 0, none⟩))) (w'.alloc (.cells z T)) := fun b => by
        simp only [execOp, Sem.run_bind, ha w', Result.andThen_ok, Sem.run_pure]
      refine ⟨w'.heap.size, fun j hj => ?_, .inl ⟨rfl, ?_⟩⟩
      · have hjn : j ≠ i := fun e => by subst e; rw [hun] at hj; cases hj
        simp only [V, if_neg hjn]
      · refine gives_value (w' := w'.alloc (.cells z T)) ?_ ?_
        · rw [hw]
          simp only [V, if_pos]; rfl
        · exact ⟨hCa _ hC', fun _ => ⟨Blk.new _ _ _, hCs _ hC'⟩⟩
  · intro γ L w' hall ⟨hC', g1⟩
    have h1 := hall n (by omega)
    have hl2' : (l.take (n + 1)).length = n + 1 := by rw [List.length_take]; omega
    rw [hl2']
    have hput : lexF (l.take (n + 1)) (V γ) (n + 1) a = (lexF (l.take n) vals n a).put (some d1) (ptr γ) := by
      rw [lexF, hfr γ n (Nat.le_refl n), List.getElem?_take_of_lt (by omega), hl1]
      simp only [V, if_pos, Option.bind_some]
    rw [hput]
    rw [hlen] at hq
    exact hq γ w' hC' (g1 h1).1 (g1 h1).2
end
end Go.Proofs.Ytclmdakgkiponaa
set_option maxRecDepth 100000
namespace Go.Proofs.Ytclmdakgkiponaa
open Go.ChangeShapes Go.WideShapes Go.ChangeAt Go.RowKit
section
variable {ops : Array Oper} {a : Act} {rest : List Oper} {dst : Option Tmp} {ty : TypeId} {pos : String} {after : Array Edge} {x : Operand} {g o n : Nat} {f : Nat → Nat} {T : TypeId} {C : World → Prop} {Qk : Act → Prop} {gd : Option (Nat × Bool)}
theorem bldA (hT : ArT T n) (hwt : Region.wanted ⟨dst, .load T x, ty, pos, after, gd⟩ (yielded ops a.tmps) = true) (hx : a.eval x = .pointer (some ⟨g, o, none⟩)) (hb : ∀ w, C w → w.rangeAt g o (ar n f).toList) (h : wpB Try.prog ops C Qk rest (a.put dst (.agg (ar n f)))) :
    wpB Try.prog ops C Qk (⟨dst, .load T x, ty, pos, after, gd⟩ :: rest) a :=
  wpB_val hwt (fun w hw => gives_value (w' := w) (by simp only [execOp, hx, Sem.run_bind, run_ldm hT (hb w hw), Result.andThen_ok, Sem.run_pure]) ⟨hw, Below.refl _ _⟩) h
end
end Go.Proofs.Ytclmdakgkiponaa
set_option maxRecDepth 100000
namespace Go.Proofs.Ytclmdakgkiponaa
open Go.ChangeShapes Go.WideShapes Go.ChangeAt Go.RowKit
attribute [local go_sem] Gives
/-- A type of n cells, one behind the other. -/
structure RowT (T : TypeId) (n : Nat) : Prop where
  size : (Try.prog.info? T).map (·.size) = some n
  desc : ∃ d, Try.prog.underlying T = some d ∧ d.isRow = true
section
variable {ops : Array Oper} {Q : Exit → Act → World → Prop} {a : Act} {w : World} {rest : List Oper} {dst : Option Tmp} {ty : TypeId} {pos : String} {after : Array Edge} {x y : Operand} {g o n : Nat} {cs : Array Value} {T : TypeId} {C : World → Prop} {Qk : Act → Prop} {gd : Option (Nat × Bool)}
theorem run_ldR (hT : RowT T cs.size) (hb : w.rangeAt g o cs.toList) : (Instr.loadAt T (.pointer (some ⟨g, o, none⟩))).run Try.prog w = .ok (.agg cs) w := by
  obtain ⟨d, h1, h2⟩ := hT.desc
  have := run_loadAt_mid (P := Try.prog) w g o T cs.toList _ hb h1 h2 (hT.size.trans (by rw [Array.length_toList]))
  rwa [Array.toArray_toList] at this
theorem Blk.whole {t : TypeId} (h : Blk w g t cs) : w.rangeAt g 0 cs.toList := fun j v hj => by
  rw [Nat.zero_add, h.cell]; rwa [Array.getElem?_toList] at hj
theorem ldR (hT : RowT T cs.size) (hx : a.eval x = .pointer (some ⟨g, o, none⟩)) (hb : w.rangeAt g o cs.toList) (h : wpList Try.prog ops Q rest (a.put dst (.agg cs)) w) :
    wpList Try.prog ops Q (⟨dst, .load T x, ty, pos, after, none⟩ :: rest) a w := by
  obtain ⟨d, h1, h2⟩ := hT.desc
  exact step_load_mid hb h1 h2 (hT.size.trans (by rw [Array.length_toList])) hx (by rw [Array.toArray_toList]; exact h)
theorem stR {t : TypeId} {old : Array Value} (hT : RowT T cs.size) (hx : a.eval x = .pointer (some ⟨g, 0, none⟩)) (hy : a.eval y = .agg cs) (hb : Blk w g t old) (hs : old.size = cs.size) (h1 : cs.all (·.oneCell') = true) (h : wpList Try.prog ops Q rest (a.put dst undef) (w.setRow g cs)) :
    wpList Try.prog ops Q (⟨dst, .store T x y, ty, pos, after, none⟩ :: rest) a w :=
  step_store_row hb hT.size hs h1 hx hy h
theorem kldR (hT : RowT T cs.size) (hwt : Region.wanted ⟨dst, .load T x, ty, pos, after, gd⟩ (yielded ops a.tmps) = true) (hx : a.eval x = .pointer (some ⟨g, o, none⟩)) (hb : ∀ w, C w → w.rangeAt g o cs.toList) (h : wpK Try.prog ops C Qk rest (a.put dst (.agg cs))) :
    wpK Try.prog ops C Qk (⟨dst, .load T x, ty, pos, after, gd⟩ :: rest) a :=
  wpK_val hwt (fun w hw => gives_value (w' := w) (by simp only [execOp, hx, Sem.run_bind, run_ldR hT (hb w hw), Result.andThen_ok, Sem.run_pure]) hw) h
theorem bldR (hT : RowT T cs.size) (hwt : Region.wanted ⟨dst, .load T x, ty, pos, after, gd⟩ (yielded ops a.tmps) = true) (hx : a.eval x = .pointer (some ⟨g, o, none⟩)) (hb : ∀ w, C w → w.rangeAt g o cs.toList) (h : wpB Try.prog ops C Qk rest (a.put dst (.agg cs))) :
    wpB Try.prog ops C Qk (⟨dst, .load T x, ty, pos, after, gd⟩ :: rest) a :=
  wpB_val hwt (fun w hw => gives_value (w' := w) (by simp only [execOp, hx, Sem.run_bind, run_ldR hT (hb w hw), Result.andThen_ok, Sem.run_pure]) ⟨hw, Below.refl _ _⟩) h
end
end Go.Proofs.Ytclmdakgkiponaa
set_option maxRecDepth 100000
namespace Go.Proofs.Ytclmdakgkiponaa
section
variable {P : Program} {ops : Array Oper}
theorem wpK_list {C : World → Prop} {Q : Exit → Act → World → Prop} {rest : List Oper} : ∀ (l : List Oper) (a : Act) (w : World), wpK P ops C (fun a' => ∀ w', C w' → wpList P ops Q rest a' w') l a → C w → wpList P ops Q (l ++ rest) a w
  | [], _, w, h, hC => h w hC
  | o :: l, a, w, h, hC => by
    obtain ⟨v, h1, h2⟩ := h
    rw [List.cons_append, wpList]
    rcases h1 with ⟨hw, hg⟩ | ⟨hw, rfl⟩
    · rw [if_pos hw]
      exact .inl (wp_of_gives (hg w hC) fun w' hC' => wpK_list l _ w' h2 hC')
    · rw [if_neg (by rw [hw]; exact Bool.false_ne_true)]
      exact wpK_list l _ w h2 hC
theorem wp_region_fixed {id : Nat} {Q : Exit → Act → World → Prop} {C : World → Prop} {a : Act} {w : World} {l : List Oper} (n : Nat) (hC : C w)
    (h : wpK P l.toArray C (fun a' => ∀ w', C w' → wpList P l.toArray Q (l.drop n) a' w') (l.take n) a) : (Code.region id l.toArray false).wp P Q a w := by
  refine wp_region_lit ?_
  have := wpK_list _ _ _ h hC
  rwa [List.take_append_drop] at this
end
end Go.Proofs.Ytclmdakgkiponaa
set_option maxRecDepth 100000
namespace Go.Proofs.Ytclmdakgkiponaa
open Go.ChangeShapes Go.WideShapes Go.ChangeAt Go.RowKit
attribute [local go_sem] Gives
namespace GeM
theorem ret_i {k : IntKind} {a b : Int} (h : a = b) : Ending.returned (.int k a) = .returned (.int k b) := by rw [h]
/-- A geometry as it is handed down. -/
abbrev gv (a b : Int) : Value := .agg #[.int .i64 a, .int .i64 b]
theorem gv_eq (a b : Int) : gv a b = .agg #[.int .i64 a, .int .i64 b] := rfl
theorem below_al {w : World} (o : Obj) : Below w.heap.size w (w.alloc o) := (Below.refl _ _).alloc (Nat.le_refl _) _
set_option maxHeartbeats 400000 in
theorem check_any (a b : Int) (w : World) : Calls Try.prog 32 #[gv a b] w fun e w' => e = .returned (.int .i64 (if Good a b then 0 else 2)) ∧ Below w.heap.size w w' := by
  obtain ⟨c, hc⟩ : ∃ c : Int, c = if Good a b then 0 else 2 := ⟨_, rfl⟩
  rw [← hc]
  have HC := hid hc
  clear hc
  unfold gv
  go_enter Try.func32, Try.ntmps32
  go_wp2_with fail
  all_goals
    go_ret
    refine ⟨ret_i ?_, below_al _⟩
    have hc := HC.out
    clear HC
    simp only [Good] at hc
    first | (simp_all; done) | (simp_all; omega) | omega
/-- What a function of the program tells of a geometry. -/
abbrev Tells (f : FuncId) (n : Int → Int → Nat) : Prop := ∀ (a b : Int) (w : World), Calls Try.prog f #[gv a b] w fun e w' => e = .returned (.int .i64 (n a b)) ∧ Below w.heap.size w w'
abbrev tyG : TypeId := 23
theorem tGe (a b : Int) : RowT tyG (#[Value.int .i64 a, .int .i64 b] : Array Value).size := ⟨by kernel_rfl, _, Try.underlying23, rfl⟩
/-- In w block g is a geometry; nothing from before base has been turned. -/
structure At (B : World) (g : Nat) (a b : Int) (w : World) : Prop where
  blk : Blk w g tyG #[.int .i64 a, .int .i64 b]
  bel : Below B.heap.size B w
theorem At.new (B : World) (a b : Int) : At B B.heap.size a b (B.alloc (.cells #[.int .i64 a, .int .i64 b] tyG)) := ⟨Blk.new _ _ _, below_al _⟩
theorem At.on {B : World} {g : Nat} {a b : Int} {w w' : World} (h : At B g a b w) (hb : Below w.heap.size w w') : At B g a b w' := ⟨h.blk.below hb h.blk.lt, h.bel.trans (hb.mono h.bel.size)⟩
theorem At.c0 {B : World} {g : Nat} {a b : Int} {w : World} (h : At B g a b w) : w.cell? ⟨g, 0, none⟩ = some (.int .i64 a) := h.blk.cell 0
theorem At.c1 {B : World} {g : Nat} {a b : Int} {w : World} (h : At B g a b w) : w.cell? ⟨g, 1, none⟩ = some (.int .i64 b) := h.blk.cell 1
theorem At.drew {B : World} {g : Nat} {a b : Int} {w : World} (h : At B g a b w) : At B g a b w.drew := ⟨h.blk.drew, h.bel.drew⟩
set_option maxHeartbeats 400000 in
theorem leaves_any : Tells 27 (L lv) := fun a b w => by
  by_cases hg : Good a b
  · obtain ⟨m, r, rfl, rfl, h1, h2, h3, h4⟩ := good_nat hg
    have hl := lv_bd hg
    rw [L_good hg]
    obtain ⟨n, hn⟩ : ∃ n, n = lv m r := ⟨_, rfl⟩
    have HN := hid (show (m : Int) * r = (n : Nat) by rw [hn]; unfold lv; push_cast; rfl)
    rw [← hn] at hl ⊢
    clear h1 h2 h3 h4
    unfold gv
    go_enter Try.func27, Try.ntmps27
    go_wp2_with fail
    refine (check_any _ _ _).mono ?_
    rw [if_pos hg]
    rintro e w1 ⟨rfl, h1⟩
    have A1 := hid ((At.new w m r).on h1)
    have q0 := A1.out.c0
    have q1 := A1.out.c1
    clear h1
    go_wp2_with fail
    rw [HN.out]
    go_wp2_with fail
    go_ret
    exact ⟨ret_i (IntWalk.wrap64_in _ (by omega)), A1.out.bel⟩
  · rw [L_bad hg]
    unfold gv
    go_enter Try.func27, Try.ntmps27
    go_wp2_with fail
    refine (check_any _ _ _).mono ?_
    rw [if_neg hg]
    rintro e w1 ⟨rfl, h1⟩
    have A1 := hid ((At.new w a b).on h1)
    clear h1
    go_wp2_with fail
    go_ret
    exact ⟨rfl, A1.out.bel⟩
theorem n64 {x : Int} {n : Nat} (e : x = (n : Int)) (h : n < 1000000) : wrap64 x = (n : Int) := by
  rw [e]; exact IntWalk.wrap64_in _ ⟨by omega, by omega⟩
set_option maxHeartbeats 400000 in
theorem logical_any : Tells 28 (L lo) := fun a b w => by
  by_cases hg : Good a b
  · obtain ⟨m, r, rfl, rfl, k1, k2, k3, k4⟩ := good_nat hg
    rw [L_good hg]
    unfold gv
    go_enter Try.func28, Try.ntmps28
    go_wp2_with fail
    refine (check_any _ _ _).mono ?_
    rw [if_pos hg]
    rintro e w1 ⟨rfl, h1⟩
    have A1 := hid ((At.new w m r).on h1)
    have q0 := A1.out.c0
    have q1 := A1.out.c1
    clear h1
    obtain ⟨n, hn⟩ : ∃ n, n = lo m r := ⟨_, rfl⟩
    have hl := lo_bd hg
    have HN := hid (show (r : Int) * ((m : Int) - 2) = (n : Nat) by rw [hn]; unfold lo; rw [Int.natCast_mul, show ((m - 2 : Nat) : Int) = (m : Int) - 2 by omega])
    rw [← hn] at hl
    go_wp2_with fail
    rw [HN.out]
    go_wp2_with fail
    go_ret
    exact ⟨ret_i (by rw [IntWalk.wrap64_in _ (by omega), hn]), A1.out.bel⟩
  · rw [L_bad hg]
    unfold gv
    go_enter Try.func28, Try.ntmps28
    go_wp2_with fail
    refine (check_any _ _ _).mono ?_
    rw [if_neg hg]
    rintro e w1 ⟨rfl, h1⟩
    have A1 := hid ((At.new w a b).on h1)
    clear h1
    go_wp2_with fail
    go_ret
    exact ⟨rfl, A1.out.bel⟩
end GeM
end Go.Proofs.Ytclmdakgkiponaa
set_option maxRecDepth 100000
namespace Go.Proofs.Ytclmdakgkiponaa
namespace GeM
/-- A row, and a member or a column, of a geometry. -/
def Ok (a b r n : Int) : Prop := Good a b ∧ 0 ≤ r ∧ r < b ∧ 0 ≤ n ∧ n < a
instance (a b r n : Int) : Decidable (Ok a b r n) := by unfold Ok; infer_instance
/-- One of so many of a geometry. -/
def Om (a b n : Int) (k : Nat) : Prop := Good a b ∧ 0 ≤ n ∧ n < (k : Int)
instance (a b n : Int) (k : Nat) : Decidable (Om a b n k) := by unfold Om; infer_instance
def col (m r k : Nat) : Nat := (k + r) % m
def mem (m r c : Nat) : Nat := (c + (m - r % m)) % m
def v2 (x : Nat × Nat) : Value := .tuple #[.int .i64 x.1, .int .i64 x.2]
def v3 (x : Nat × Nat × Nat) : Value := .tuple #[.int .i64 x.1, .int .i64 x.2.1, .int .i64 x.2.2]
def colP (a b r n : Int) : Nat × Nat := if Ok a b r n then (col a.toNat r.toNat n.toNat, 0) else (0, 2)
def memP (a b r n : Int) : Nat × Nat := if Ok a b r n then (mem a.toNat r.toNat n.toNat, 0) else (0, 2)
def numP (a b r n : Int) : Nat × Nat := if Ok a b r n then (if n.toNat + 2 < a.toNat then (r.toNat * (a.toNat - 2) + n.toNat, 0) else (0, 5)) else (0, 2)
def lefP (a b r n : Int) : Nat × Nat := if Ok a b r n then (r.toNat * a.toNat + n.toNat, 0) else (0, 2)
def ofP (a b n : Int) : Nat × Nat × Nat := if Om a b n (L lo a b) then (n.toNat / (a.toNat - 2), n.toNat % (a.toNat - 2), 0) else (0, 0, 2)
def atP (a b n : Int) : Nat × Nat × Nat := if Om a b n (L lv a b) then (n.toNat / a.toNat, n.toNat % a.toNat, 0) else (0, 0, 2)
theorem ok_nat {a b r n : Int} (h : Ok a b r n) : ∃ m q x y : Nat, a = m ∧ b = q ∧ r = x ∧ n = y ∧ Good m q ∧ x < q ∧ y < m := by
  obtain ⟨hg, h1, h2, h3, h4⟩ := h
  obtain ⟨m, q, rfl, rfl, _⟩ := good_nat hg
  exact ⟨m, q, r.toNat, n.toNat, rfl, rfl, by omega, by omega, hg, by omega, by omega⟩
theorem om_nat {a b n : Int} {k : Nat} (h : Om a b n k) : ∃ m q y : Nat, a = m ∧ b = q ∧ n = y ∧ Good m q ∧ y < k := by
  obtain ⟨hg, h1, h2⟩ := h
  obtain ⟨m, q, rfl, rfl, _⟩ := good_nat hg
  exact ⟨m, q, n.toNat, rfl, rfl, by omega, hg, by omega⟩
theorem ok_of {m q x y : Nat} (hg : Good m q) (hx : x < q) (hy : y < m) : Ok m q x y := ⟨hg, by omega, by omega, by omega, by omega⟩
section
variable {m q x y : Nat}
theorem colP_ok (hg : Good m q) (hx : x < q) (hy : y < m) : colP m q x y = (col m x y, 0) := by rw [colP, if_pos (ok_of hg hx hy)]; rfl
theorem memP_ok (hg : Good m q) (hx : x < q) (hy : y < m) : memP m q x y = (mem m x y, 0) := by rw [memP, if_pos (ok_of hg hx hy)]; rfl
theorem lefP_ok (hg : Good m q) (hx : x < q) (hy : y < m) : lefP m q x y = (x * m + y, 0) := by rw [lefP, if_pos (ok_of hg hx hy)]; rfl
theorem numP_ok (hg : Good m q) (hx : x < q) (hy : y < m) (h2 : y + 2 < m) : numP m q x y = (x * (m - 2) + y, 0) := by rw [numP, if_pos (ok_of hg hx hy)]; simp only [Int.toNat_natCast]; rw [if_pos h2]
theorem numP_pq (hg : Good m q) (hx : x < q) (hy : y < m) (h2 : ¬ y + 2 < m) : numP m q x y = (0, 5) := by rw [numP, if_pos (ok_of hg hx hy)]; simp only [Int.toNat_natCast]; rw [if_neg h2]
theorem ofP_ok (hg : Good m q) (hy : y < lo m q) : ofP m q y = (y / (m - 2), y % (m - 2), 0) := by rw [ofP, if_pos ⟨hg, by omega, by rw [L_good hg]; omega⟩]; rfl
theorem atP_ok (hg : Good m q) (hy : y < lv m q) : atP m q y = (y / m, y % m, 0) := by rw [atP, if_pos ⟨hg, by omega, by rw [L_good hg]; omega⟩]; rfl
end
section
variable {a b r n : Int}
theorem colP_no (h : ¬ Ok a b r n) : colP a b r n = (0, 2) := by rw [colP, if_neg h]
theorem memP_no (h : ¬ Ok a b r n) : memP a b r n = (0, 2) := by rw [memP, if_neg h]
theorem numP_no (h : ¬ Ok a b r n) : numP a b r n = (0, 2) := by rw [numP, if_neg h]
theorem lefP_no (h : ¬ Ok a b r n) : lefP a b r n = (0, 2) := by rw [lefP, if_neg h]
theorem ofP_no (h : ¬ Om a b n (L lo a b)) : ofP a b n = (0, 0, 2) := by rw [ofP, if_neg h]
theorem atP_no (h : ¬ Om a b n (L lv a b)) : atP a b n = (0, 0, 2) := by rw [atP, if_neg h]
end
section
variable {m q r k c : Nat}
theorem col_lt (h : 0 < m) : col m r k < m := Nat.mod_lt _ h
theorem mem_lt (h : 0 < m) : mem m r c < m := Nat.mod_lt _ h
theorem col_mod (h : 0 < m) : col m r k = (k + r % m) % m := by unfold col; rw [Nat.add_mod, Nat.add_mod k (r % m), Nat.mod_mod]
theorem col_cases (h : k < m) : col m r k = k + r % m ∧ k + r % m < m ∨ col m r k + m = k + r % m := by
  have h1 := Nat.mod_lt r (show 0 < m by omega)
  rw [col_mod (by omega)]
  rcases Nat.lt_or_ge (k + r % m) m with e | e
  · exact .inl ⟨Nat.mod_eq_of_lt e, e⟩
  · refine .inr ?_
    rw [Nat.mod_eq_sub_mod e, Nat.mod_eq_of_lt (by omega)]; omega
theorem mem_cases (h : c < m) : mem m r c + r % m = c ∨ mem m r c + r % m = c + m := by
  have h1 := Nat.mod_lt r (show 0 < m by omega)
  unfold mem
  rcases Nat.lt_or_ge (c + (m - r % m)) m with e | e
  · rw [Nat.mod_eq_of_lt e]; omega
  · rw [Nat.mod_eq_sub_mod e, Nat.mod_eq_of_lt (by omega)]; omega
theorem col_mem (h : c < m) : col m r (mem m r c) = c := by
  have h0 := mem_lt (m := m) (r := r) (c := c) (by omega)
  have h1 := mem_cases (r := r) h
  have h2 := col_cases (r := r) h0
  have h3 := col_lt (m := m) (r := r) (k := mem m r c) (by omega)
  omega
theorem mem_col (h : k < m) : mem m r (col m r k) = k := by
  have h0 := col_lt (m := m) (r := r) (k := k) (by omega)
  have h1 := mem_cases (r := r) h0
  have h2 := col_cases (r := r) h
  have h3 := mem_lt (m := m) (r := r) (c := col m r k) (by omega)
  omega
theorem mem_inj {d : Nat} (h : c < m) (h' : d < m) (e : mem m r c = mem m r d) : c = d := by
  rw [← col_mem (r := r) h, e, col_mem h']
theorem col_inj {j : Nat} (h : k < m) (h' : j < m) (e : col m r k = col m r j) : k = j := by
  rw [← mem_col (r := r) h, e, mem_col h']
end
end GeM
end Go.Proofs.Ytclmdakgkiponaa
set_option maxRecDepth 100000
namespace Go.Proofs.Ytclmdakgkiponaa
open Go.ChangeShapes Go.WideShapes Go.ChangeAt Go.RowKit
/-- A type of slices, of numbers of kind k. -/
structure Elt (S e : TypeId) (k : IntKind) : Prop where
  und : Try.prog.underlying S = some (.slice e)
  inf : ∃ i : TypeInfo, Try.prog.info? e = some i ∧ i.zero = some (.int k 0) ∧ i.size = 1 ∧ i.bytes ≤ 8
theorem elt_of {S e : TypeId} {k : IntKind} (h : Try.prog.underlying S = some (.slice e)) (h1 : (Try.prog.info? e).map (·.size) = some 1) (h2 : (Try.prog.info? e).map (fun i => decide (i.bytes ≤ 8)) = some true) (h3 : (Try.prog.info? e).bind (·.zero) = some (.int k 0)) : Elt S e k := by
  refine ⟨h, ?_⟩
  cases hi : Try.prog.info? e with
  | none => rw [hi] at h1; cases h1
  | some i =>
    rw [hi] at h1 h2 h3
    simp only [Option.map_some, Option.some.injEq, decide_eq_true_eq, Option.bind_some] at h1 h2 h3
    exact ⟨i, rfl, h3, h1, h2⟩
def nums (k : IntKind) (l : List Nat) : List Value := l.map fun x => Value.int k (x : Nat)
theorem nums_length (k : IntKind) (l : List Nat) : (nums k l).length = l.length := List.length_map _
theorem nums_append (k : IntKind) (l m : List Nat) : nums k (l ++ m) = nums k l ++ nums k m := List.map_append
theorem nums_get (k : IntKind) {l : List Nat} {i : Nat} (h : i < l.length) : (nums k l)[i]? = some (.int k (l.getD i 0 : Nat)) := by
  unfold nums
  rw [List.getElem?_map, List.getD_eq_getElem?_getD, List.getElem?_eq_getElem h]; rfl
/-- A slice of the numbers of l, in one row below block B. -/
def Nums (k : IntKind) (w : World) (B : Nat) (A : Option Addr) (l : List Nat) : Prop :=
  0 < l.length → ∃ b o, A = some ⟨b, o, none⟩ ∧ b < B ∧ ∀ i, i < l.length → w.cell? ⟨b, o + i, none⟩ = some (.int k (l.getD i 0 : Nat))
theorem Nums.below {k : IntKind} {B B' : Nat} {w w' : World} {A : Option Addr} {l : List Nat} (h : Nums k w B A l) (hb : Below B' w w') (hB : B ≤ B') : Nums k w' B A l := fun hn => by
  obtain ⟨b, o, rfl, hl, hr⟩ := h hn
  exact ⟨b, o, rfl, hl, fun i hi => (hb.cell (p := ⟨b, o + i, none⟩) (by show b < B'; omega)).trans (hr i hi)⟩
theorem Nums.more {k : IntKind} {B B' : Nat} {w : World} {A : Option Addr} {l : List Nat} (h : Nums k w B A l) (hB : B ≤ B') : Nums k w B' A l := fun hn => by
  obtain ⟨b, o, rfl, hl, hr⟩ := h hn
  exact ⟨b, o, rfl, by omega, hr⟩
theorem Nums.byt {w : World} {B : Nat} {A : Option Addr} {l : List Nat} (h : Nums .u8 w B A l) : Byt w B A l := h
theorem Byt.nums {w : World} {B : Nat} {A : Option Addr} {l : List Nat} (h : Byt w B A l) : Nums .u8 w B A l := h
theorem Nums.none {k : IntKind} {w : World} {B : Nat} {A : Option Addr} {l : List Nat} (h : l.length = 0) : Nums k w B A l := fun hn => absurd hn (by omega)
theorem Nums.row {k : IntKind} {w : World} {B g : Nat} {t : TypeId} {cs : Array Value} {l : List Nat} (h : Blk w g t cs) (hg : g < B) (hc : ∀ j, j < l.length → cs[j]? = some (.int k (l.getD j 0 : Nat))) : Nums k w B (some ⟨g, 0, .none⟩) l := fun _ =>
  ⟨g, 0, rfl, hg, fun i hi => by rw [Nat.zero_add, h.cell]; exact hc i hi⟩
/-- v is a slice of the numbers l, in a row of its own from block B on. -/
def Own (e : TypeId) (k : IntKind) (w : World) (B : Nat) (v : Value) (l : List Nat) : Prop := w.ownsRow B e 1 v l.length (nums k l)
section
variable {e : TypeId} {k : IntKind} {w w' : World} {B : Nat} {v : Value} {l : List Nat}
theorem Own.nil : Own e k w B (.slice none 0 0) [] := World.ownsRow_nil w B e 1
theorem Own.empty (w : World) (hB : B ≤ w.heap.size) : Own e k (w.alloc (.cells #[] e)) B (.slice (some ⟨w.heap.size, 0, none⟩) 0 0) [] :=
  World.ownsRow_made w #[] 0 hB (Nat.zero_le _) rfl
theorem Own.form (h : Own e k w B v l) : (v = .slice none 0 0 ∧ l = []) ∨ ∃ g cap, v = .slice (some ⟨g, 0, none⟩) l.length cap ∧ B ≤ g ∧ g < w.heap.size ∧ l.length ≤ cap ∧ cap ≤ maxLen ∧ Nums k w w.heap.size (some ⟨g, 0, none⟩) l := by
  rcases h.2 with ⟨h', h0⟩ | ⟨g, cap, cur, hv, hB, hg, hnc, hcm, hcs, ht⟩
  · exact .inl ⟨h', List.eq_nil_of_length_eq_zero h0⟩
  · have hlt : g < w.heap.size := Blk.lt (t := e) (cs := cur) hg
    refine .inr ⟨g, cap, hv, hB, hlt, hnc, hcm, fun _ => ⟨g, 0, rfl, hlt, fun i hi => ?_⟩⟩
    rw [Nat.zero_add, cell_of_row w g _ cur _ _ hg]
    have h1 := nums_get k hi
    rw [← ht, List.getElem?_take_of_lt (by omega), Array.getElem?_toList] at h1
    exact h1
/-- The same, whichever it is. -/
theorem Own.any (h : Own e k w B v l) : ∃ A cap, v = .slice A l.length cap ∧ l.length ≤ cap ∧ cap ≤ maxLen ∧ Nums k w w.heap.size A l := by
  rcases h.form with ⟨rfl, rfl⟩ | ⟨g, cap, rfl, _, _, h1, h2, h3⟩
  · exact ⟨.none, 0, rfl, Nat.le_refl _, Nat.zero_le _, Nums.none rfl⟩
  · exact ⟨_, cap, rfl, h1, h2, h3⟩
theorem Own.below (h : Own e k w B v l) (hb : Below w.heap.size w w') : Own e k w' B v l := by
  refine ⟨h.1, ?_⟩
  rcases h.2 with h' | ⟨g, cap, cur, hv, hB, hg, hr⟩
  · exact .inl h'
  · exact .inr ⟨g, cap, cur, hv, hB, Blk.below (t := e) (cs := cur) hg hb (Blk.lt (t := e) (cs := cur) hg), hr⟩
theorem Own.alloc (h : Own e k w B v l) (o : Obj) : Own e k (w.alloc o) B v l := World.ownsRow.alloc h o
theorem Own.drew (h : Own e k w B v l) : Own e k w.drew B v l := ⟨h.1, h.2⟩
end
theorem below_grown {B B' : Nat} {w0 w w' w1 : World} {v : Value} {e : TypeId} {k : IntKind} {l : List Nat} (hb : Below B w0 w) (hg : w.grownBy w' v.ownBlock) (ho : Own e k w1 B' v l) (hB : B ≤ B') (hs : B ≤ w0.heap.size) : Below B w0 w' :=
  hb.grown hg (Nat.le_trans hs hb.size) fun g h => Nat.le_trans hB (World.ownsRow.lt ho g h).1
theorem Blk.grown {e : TypeId} {k : IntKind} {w w' w0 : World} {g B : Nat} {t : TypeId} {cs : Array Value} {v : Value} {l : List Nat} (h : Blk w g t cs) (hg : w.grownBy w' v.ownBlock) (ho : Own e k w0 B v l) (hlt : g < B) : Blk w' g t cs :=
  (hg.block g h.lt fun e' => by have := (World.ownsRow.lt ho g e'.symm).1; omega).trans h
theorem Nums.grown {e : TypeId} {k k' : IntKind} {w w' w0 : World} {A : Option Addr} {B B' : Nat} {v : Value} {l m : List Nat} (h : Nums k' w B' A m) (_hB : B' ≤ w.heap.size) (hg : w.grownBy w' v.ownBlock) (ho : Own e k w0 B v l) (hlt : B' ≤ B) : Nums k' w' B' A m := fun hn => by
  obtain ⟨b, o, rfl, hl, hr⟩ := h hn
  exact ⟨b, o, rfl, hl, fun i hi => hg.cell (hr i hi) fun e' => by have := (World.ownsRow.lt ho b e'.symm).1; omega⟩
theorem below_none {B : Nat} {w0 w w' : World} (hb : Below B w0 w) (hg : w.grownBy w' none) (hs : B ≤ w0.heap.size) : Below B w0 w' :=
  hb.grown hg (Nat.le_trans hs hb.size) fun g h => by cases h
theorem Own.heap {e : TypeId} {k : IntKind} {w w' : World} {B : Nat} {v : Value} {l : List Nat} (h : Own e k w B v l) (hh : w'.heap = w.heap) : Own e k w' B v l := by
  refine ⟨h.1, ?_⟩
  rcases h.2 with h' | ⟨g, cap, cur, hv, hB, hg, hr⟩
  · exact .inl h'
  · exact .inr ⟨g, cap, cur, hv, hB, by rw [hh]; exact hg, hr⟩
section
variable {ops : Array Oper} {Q : Exit → Act → World → Prop} {a : Act} {w : World} {rest : List Oper} {dst : Option Tmp} {ty : TypeId} {pos : String} {after : Array Edge} {s x : Operand} {m c B B' : Nat} {v : Value} {l kk : List Nat} {S e : TypeId} {k : IntKind} {ad : Addr}
theorem run_appN (E : Elt S e k) (hown : Own e k w B v l) (hrd : Nums k w B' (some ad) kk) (hk : kk.length = m) (hsz : l.length + m ≤ 1000000) (hB : B ≤ w.heap.size) :
    ∃ v' w', (Builtin.append_ #[S, S] ty #[v, .slice (some ad) m c]).run Try.prog w = .ok v' w' ∧ Own e k w' B v' (l ++ kk) ∧ w.grownBy w' v.ownBlock := by
  obtain ⟨i, hi, hz, h1, h2⟩ := E.inf
  subst hk
  obtain ⟨v', w', hr, ho, hg, _⟩ := run_append_own (P := Try.prog) w B S ty e i (.int k 0) 1 i.bytes E.und hi hz h1 rfl rfl (by decide) v l.length _ hown ad kk.length c (nums k kk) (by rw [nums_length, Nat.mul_one])
    (fun j u hj => by
      have hjm : j < kk.length := by
        have := (List.getElem?_eq_some_iff.1 hj).1
        rwa [nums_length] at this
      obtain ⟨b, o, e', _, hr⟩ := hrd (by omega)
      obtain rfl : ad = ⟨b, o, none⟩ := Option.some.inj e'
      rw [nums_get k hjm] at hj
      rw [Addr.add_mid, hr j hjm]
      exact hj)
    (fun u hu => by
      obtain ⟨y, _, rfl⟩ := List.mem_map.1 hu
      rfl)
    (by unfold maxLen; omega) (Nat.le_trans (Nat.mul_le_mul hsz h2) (by omega)) hB
  refine ⟨v', w', hr, ?_, hg⟩
  unfold Own
  rw [List.length_append, nums_append]
  exact ho
/-- append of numbers to a slice of the call's own. -/
theorem wappN (E : Elt S e k) (hs : a.eval s = v) (hx : a.eval x = .slice (some ad) m c) (hown : Own e k w B v l) (hrd : Nums k w B' (some ad) kk) (hk : kk.length = m) (hsz : l.length + m ≤ 1000000) (hB : B ≤ w.heap.size)
    (h : ∀ v' w', Own e k w' B v' (l ++ kk) → w.grownBy w' v.ownBlock → wpList Try.prog ops Q rest (a.put dst v') w') :
    wpList Try.prog ops Q (⟨dst, .call { callee := .builtin .append, args := #[s, x], argTypes := #[S, S] }, ty, pos, after, none⟩ :: rest) a w := by
  obtain ⟨v', w', hr, h1, h2⟩ := run_appN (ty := ty) (c := c) E hown hrd hk hsz hB
  refine wpList_plain rfl fun K hK => ?_
  unfold Oper.wp execOp
  simp only [resolve, invoke, builtin, Sem.run_bind, Sem.run_pure, Result.andThen_ok, List.map_toArray, List.map_cons, List.map_nil, hs, hx, hr]
  exact hK _ _ (h v' w' h1 h2)
theorem wappN_none (E : Elt S e k) (hs : a.eval s = v) (hx : a.eval x = .slice none 0 0) (hown : Own e k w B v l) (h : wpList Try.prog ops Q rest (a.put dst v) w) :
    wpList Try.prog ops Q (⟨dst, .call { callee := .builtin .append, args := #[s, x], argTypes := #[S, S] }, ty, pos, after, none⟩ :: rest) a w := by
  obtain ⟨i, hi, hz, h1, h2⟩ := E.inf
  refine wpList_plain rfl fun K hK => ?_
  unfold Oper.wp execOp
  have := run_append_owned_none (P := Try.prog) w B S ty e i 1 E.und hi v l.length _ hown
  simp only [resolve, invoke, builtin, Sem.run_bind, Sem.run_pure, Result.andThen_ok, List.map_toArray, List.map_cons, List.map_nil, hs, hx, this]
  exact hK _ _ h
theorem wappN_any {A : Option Addr} (E : Elt S e k) (hs : a.eval s = v) (hx : a.eval x = .slice A m c) (h0 : A = none → m = 0 ∧ c = 0) (hown : Own e k w B v l) (hrd : Nums k w B' A kk) (hk : kk.length = m) (hsz : l.length + m ≤ 1000000) (hB : B ≤ w.heap.size)
    (h : ∀ v' w', Own e k w' B v' (l ++ kk) → w.grownBy w' v.ownBlock → wpList Try.prog ops Q rest (a.put dst v') w') :
    wpList Try.prog ops Q (⟨dst, .call { callee := .builtin .append, args := #[s, x], argTypes := #[S, S] }, ty, pos, after, none⟩ :: rest) a w := by
  cases A with
  | some ad => exact wappN E hs hx hown hrd hk hsz hB h
  | none =>
    obtain ⟨rfl, rfl⟩ := h0 rfl
    obtain rfl := List.eq_nil_of_length_eq_zero hk
    rw [List.append_nil] at h
    exact wappN_none E hs hx hown (h v w hown ⟨rfl, rfl, rfl, Nat.le_refl _, fun _ _ _ => rfl⟩)
end
/-- A literal of one number. -/
theorem nums_one {k : IntKind} {w : World} {t : TypeId} {x : Nat} {v : Value} (h : v = .int k (x : Nat)) {B : Nat} (hB : w.heap.size < B) : Nums k (w.alloc (.cells #[v] t)) B (some ⟨w.heap.size, 0, none⟩) [x] := fun _ =>
  ⟨w.heap.size, 0, rfl, hB, fun i hi => by
    obtain rfl : i = 0 := by simp at hi; omega
    rw [(Blk.top (t := t) rfl rfl).cell, h]; rfl⟩
end Go.Proofs.Ytclmdakgkiponaa
set_option maxRecDepth 100000
namespace Go.Proofs.Ytclmdakgkiponaa
open Go.ChangeShapes Go.WideShapes Go.ChangeAt Go.RowKit
/-- From w to w' no block is turned but those of S; new ones may come. -/
structure Turn (S : Nat → Prop) (w w' : World) : Prop where
  os : w'.os = w.os
  tape : w'.tape = w.tape
  output : w'.output = w.output
  size : w.heap.size ≤ w'.heap.size
  block : ∀ k, k < w.heap.size → ¬ S k → w'.heap[k]? = w.heap[k]?
namespace Turn
variable {S T : Nat → Prop} {w w' w2 : World}
theorem refl (S : Nat → Prop) (w : World) : Turn S w w := ⟨rfl, rfl, rfl, Nat.le_refl _, fun _ _ _ => rfl⟩
theorem trans (h : Turn S w w') (h2 : Turn T w' w2) (hT : ∀ k, T k → S k ∨ w.heap.size ≤ k) : Turn S w w2 :=
  ⟨h2.os.trans h.os, h2.tape.trans h.tape, h2.output.trans h.output, Nat.le_trans h.size h2.size, fun k hk hS =>
    (h2.block k (Nat.lt_of_lt_of_le hk h.size) fun e => (hT k e).elim hS fun h3 => by omega).trans (h.block k hk hS)⟩
theorem mono (h : Turn S w w') (hS : ∀ k, S k → T k) : Turn T w w' := ⟨h.os, h.tape, h.output, h.size, fun k hk hn => h.block k hk fun e => hn (hS k e)⟩
theorem of_below {B : Nat} (h : Below B w w') : Turn (fun k => B ≤ k) w w' := ⟨h.os, h.tape, h.output, h.size, fun k _ hS => h.block k (by omega)⟩
theorem of_new {S : Nat → Prop} (h : Below w.heap.size w w') : Turn S w w' := ⟨h.os, h.tape, h.output, h.size, fun k hk _ => h.block k hk⟩
theorem below (h : Turn S w w') {B : Nat} (hB : B ≤ w.heap.size) (hS : ∀ k, S k → B ≤ k) : Below B w w' := ⟨h.os, h.tape, h.output, h.size, fun k hk => h.block k (by omega) fun e => by have := hS k e; omega⟩
theorem of_grown {r : Option Nat} (h : w.grownBy w' r) (hr : ∀ k, r = some k → S k) : Turn S w w' := ⟨h.os, h.tape, h.output, h.size, fun k hk hS => h.block k hk fun e => hS (hr k e.symm)⟩
theorem setRow (w : World) (g : Nat) (cs : Array Value) (hg : S g) : Turn S w (w.setRow g cs) := ⟨rfl, rfl, rfl, by simp, fun k _ hS => Go.setRow_other w g k cs fun e => hS (e ▸ hg)⟩
theorem setCell (w : World) (p : Addr) (v : Value) (hp : S p.block) : Turn S w (w.setCell p v) := ⟨rfl, rfl, rfl, by simp, fun k _ hS => Below.heap_setCell w p v k fun e => hS (e ▸ hp)⟩
theorem alloc (w : World) (o : Obj) : Turn S w (w.alloc o) := of_new ((Below.refl _ _).alloc (Nat.le_refl _) _)
theorem drew (w : World) : Turn S w w.drew := ⟨rfl, rfl, rfl, Nat.le_refl _, fun _ _ _ => rfl⟩
theorem cell (h : Turn S w w') {p : Addr} {v : Value} (hc : w.cell? p = some v) (hp : ¬ S p.block) : w'.cell? p = some v :=
  (World.cell?_of_block (h.block p.block (World.block_lt_of_cell? w p hc) hp)).trans hc
end Turn
theorem Blk.turn {S : Nat → Prop} {w w' : World} {g : Nat} {t : TypeId} {cs : Array Value} (h : Blk w g t cs) (ht : Turn S w w') (hg : ¬ S g) : Blk w' g t cs := (ht.block g h.lt hg).trans h
theorem Turn.range {S : Nat → Prop} {w w' : World} {g o : Nat} {cs : List Value} (h : Turn S w w') (hr : w.rangeAt g o cs) (hg : ¬ S g) : w'.rangeAt g o cs := fun j v hj => h.cell (p := ⟨g, o + j, none⟩) (hr j v hj) hg

/-! ### Elements of k cells -/
section
variable {α : Type} {k : Nat} {en : α → List Value} {S T : Nat → Prop} {w w' : World} {A : Option Addr} {l m : List α}
/-- The elements of l lie one behind the other from A on, in a block of S. -/
def Lst (k : Nat) (en : α → List Value) (S : Nat → Prop) (w : World) (A : Option Addr) (l : List α) : Prop :=
  0 < l.length → ∃ b o, A = some ⟨b, o, none⟩ ∧ S b ∧ b < w.heap.size ∧ ∀ (i : Nat) (x : α), l[i]? = some x → w.rangeAt b (o + i * k) (en x)
/-- A slice of them. -/
structure Sli (k : Nat) (en : α → List Value) (S : Nat → Prop) (w : World) (A : Option Addr) (l : List α) (n cp : Nat) : Prop where
  len : l.length = n
  cap : n ≤ cp
  max : cp ≤ maxLen
  none : A = none → n = 0 ∧ cp = 0
  lst : Lst k en S w A l
theorem Lst.turn (h : Lst k en S w A l) (ht : Turn T w w') (hd : ∀ b, S b → b < w.heap.size → ¬ T b) : Lst k en S w' A l := fun hn => by
  obtain ⟨b, o, rfl, hS, hl, hr⟩ := h hn
  exact ⟨b, o, rfl, hS, Nat.lt_of_lt_of_le hl ht.size, fun i x hi => ht.range (hr i x hi) (hd b hS hl)⟩
theorem Lst.mono (h : Lst k en S w A l) (hST : ∀ b, S b → T b) : Lst k en T w A l := fun hn => by
  obtain ⟨b, o, rfl, hS, hl, hr⟩ := h hn
  exact ⟨b, o, rfl, hST b hS, hl, hr⟩
theorem Sli.turn {n cap : Nat} (h : Sli k en S w A l n cap) (ht : Turn T w w') (hd : ∀ b, S b → b < w.heap.size → ¬ T b) : Sli k en S w' A l n cap := ⟨h.len, h.cap, h.max, h.none, h.lst.turn ht hd⟩
theorem Sli.mono {n cap : Nat} (h : Sli k en S w A l n cap) (hST : ∀ b, S b → T b) : Sli k en T w A l n cap := ⟨h.len, h.cap, h.max, h.none, h.lst.mono hST⟩
theorem Sli.nil (k : Nat) (en : α → List Value) (S : Nat → Prop) (w : World) : Sli k en S w .none ([] : List α) 0 0 := ⟨rfl, Nat.le_refl _, Nat.zero_le _, fun _ => ⟨rfl, rfl⟩, fun h => by simp at h⟩
theorem Sli.some {n cap i : Nat} {x : α} (h : Sli k en S w A l n cap) (hi : l[i]? = some x) : ∃ b o, A = some ⟨b, o, .none⟩ ∧ S b ∧ b < w.heap.size ∧ w.rangeAt b (o + i * k) (en x) := by
  obtain ⟨b, o, e, hS, hl, hr⟩ := h.lst (by have := (List.getElem?_eq_some_iff.1 hi).1; omega)
  exact ⟨b, o, e, hS, hl, hr i x hi⟩
theorem flat_at {en : α → List Value} (hen : ∀ x, (en x).length = k) : ∀ (l : List α) (i j : Nat) (x : α), l[i]? = some x → j < k → (l.flatMap en)[i * k + j]? = (en x)[j]?
  | [], i, j, x, h, _ => by simp at h
  | y :: l, 0, j, x, h, hj => by
    simp only [List.getElem?_cons_zero, Option.some.injEq] at h
    subst h
    rw [List.flatMap_cons, Nat.zero_mul, Nat.zero_add, List.getElem?_append_left (by rw [hen]; exact hj)]
  | y :: l, i + 1, j, x, h, hj => by
    rw [List.getElem?_cons_succ] at h
    rw [List.flatMap_cons, List.getElem?_append_right (by rw [hen, Nat.add_mul]; omega), hen, show (i + 1) * k + j - k = i * k + j by rw [Nat.add_mul]; omega]
    exact flat_at hen l i j x h hj
theorem flat_len {en : α → List Value} (hen : ∀ x, (en x).length = k) : ∀ l : List α, (l.flatMap en).length = l.length * k
  | [] => by simp
  | x :: l => by rw [List.flatMap_cons, List.length_append, flat_len hen l, hen, List.length_cons, Nat.add_mul]; omega
/-- What is wanted of an element's type: k cells, each a value of one cell. -/
structure EltX (E : TypeId) (k : Nat) (en : α → List Value) : Prop where
  pos : 0 < k
  len : ∀ x, (en x).length = k
  one : ∀ x, ∀ u ∈ en x, u.oneCell' = true
  info : ∃ (i : TypeInfo) (z : Value), Try.prog.info? E = some i ∧ i.zero = some z ∧ i.size = k ∧ i.bytes ≤ 16 * k + 16 ∧ z.cells.size = k
theorem elt_info {E : TypeId} (h1 : (Try.prog.info? E).map (·.size) = some k) (h2 : (Try.prog.info? E).map (fun i => decide (i.bytes ≤ 16 * k + 16)) = some true) (h3 : ((Try.prog.info? E).bind (·.zero)).map (·.cells.size) = some k) :
    ∃ (i : TypeInfo) (z : Value), Try.prog.info? E = some i ∧ i.zero = some z ∧ i.size = k ∧ i.bytes ≤ 16 * k + 16 ∧ z.cells.size = k := by
  cases hi : Try.prog.info? E with
  | none => rw [hi] at h1; cases h1
  | some i =>
    rw [hi] at h1 h2 h3
    simp only [Option.map_some, Option.some.injEq, decide_eq_true_eq, Option.bind_some] at h1 h2 h3
    cases hz : i.zero with
    | none => rw [hz] at h3; cases h3
    | some z => rw [hz] at h3; exact ⟨i, z, rfl, hz, h1, h2, by simpa using h3⟩
/-- A list of the call's own, from block B on. -/
def OwnX (E : TypeId) (k : Nat) (en : α → List Value) (w : World) (B : Nat) (v : Value) (l : List α) : Prop := w.ownsRow B E k v l.length (l.flatMap en)
section
variable {E : TypeId} {B : Nat} {v : Value}
theorem OwnX.nil (E : TypeId) (k : Nat) (en : α → List Value) (w : World) (B : Nat) : OwnX E k en w B (.slice none 0 0) ([] : List α) := World.ownsRow_nil w B _ _
theorem OwnX.empty (hB : B ≤ w.heap.size) : OwnX E k en (w.alloc (.cells #[] E)) B (.slice (some ⟨w.heap.size, 0, none⟩) 0 0) ([] : List α) := World.ownsRow_made w #[] 0 hB (Nat.zero_le _) (by simp)
theorem OwnX.sli (hE : ∀ x, (en x).length = k) (h : OwnX E k en w B v l) : ∃ A cap, v = .slice A l.length cap ∧ Sli k en (fun b => B ≤ b) w A l l.length cap := by
  rcases h.2 with ⟨rfl, h0⟩ | ⟨g, cap, cur, rfl, hB, hg, hnc, hcm, hcs, ht⟩
  · obtain rfl := List.eq_nil_of_length_eq_zero h0
    exact ⟨none, 0, rfl, Sli.nil _ _ _ _⟩
  · refine ⟨_, cap, rfl, rfl, hnc, hcm, (fun e => by cases e), fun _ => ⟨g, 0, rfl, hB, Blk.lt (t := E) (cs := cur) hg, fun i x hi j u hj => ?_⟩⟩
    have hil := (List.getElem?_eq_some_iff.1 hi).1
    have hjl : j < k := by have := (List.getElem?_eq_some_iff.1 hj).1; rwa [hE] at this
    rw [Nat.zero_add, cell_of_row w g _ cur _ _ hg]
    have h1 := flat_at hE l i j x hi hjl
    rw [hj, ← ht, List.getElem?_take_of_lt (by have := Nat.mul_le_mul_right k (show i + 1 ≤ l.length from hil); rw [Nat.add_mul] at this; omega), Array.getElem?_toList] at h1
    exact h1
theorem OwnX.own (h : OwnX E k en w B v l) : ∀ b, v.ownBlock = some b → B ≤ b ∧ b < w.heap.size := fun b hb => World.ownsRow.lt h b hb
theorem OwnX.turn (h : OwnX E k en w B v l) (ht : Turn T w w') (hd : ∀ b, v.ownBlock = some b → ¬ T b) : OwnX E k en w' B v l := by
  refine ⟨h.1, ?_⟩
  rcases h.2 with hn | ⟨g, cap, cur, rfl, hb, hgg, rest⟩
  · exact .inl hn
  · exact .inr ⟨g, cap, cur, rfl, hb, (ht.block g (Blk.lt (t := E) (cs := cur) hgg) (hd g rfl)).trans hgg, rest⟩
theorem OwnX.below {C : Nat} (h : OwnX E k en w B v l) (hb : Below C w w') (hC : w.heap.size ≤ C) : OwnX E k en w' B v l := h.turn (Turn.of_below hb) fun b e => by have := h.own b e; omega
theorem OwnX.lower {B' : Nat} (h : OwnX E k en w B v l) (hB : B' ≤ B) : OwnX E k en w B' v l := ⟨h.1, h.2.imp id fun ⟨g, cap, cur, hv, hg, rest⟩ => ⟨g, cap, cur, hv, Nat.le_trans hB hg, rest⟩⟩
end
section
variable {ops : Array Oper} {Q : Exit → Act → World → Prop} {a : Act} {rest : List Oper} {dst : Option Tmp} {ty : TypeId} {pos : String} {after : Array Edge} {s x : Operand} {n cap B : Nat} {v : Value} {E L : TypeId}
/-- append of a slice to a list of the call's own: the run alone. -/
theorem run_appX (hE : EltX E k en) (hu : Try.prog.underlying L = some (.slice E)) (hown : OwnX E k en w B v l) (hm : Sli k en S w A m n cap) (hsz : l.length + n ≤ 1000000) (hk : k ≤ 1000) (hB : B ≤ w.heap.size) :
    ∃ v' w', (Builtin.append_ #[L, L] ty #[v, .slice A n cap]).run Try.prog w = .ok v' w' ∧ OwnX E k en w' B v' (l ++ m) ∧ w.grownBy w' v.ownBlock := by
  obtain ⟨i, z, hi, hz, h1, h2, h3⟩ := hE.info
  cases hA : A with
  | none =>
    obtain ⟨rfl, rfl⟩ := hm.none hA
    obtain rfl := List.eq_nil_of_length_eq_zero hm.len
    refine ⟨v, w, run_append_owned_none (P := Try.prog) w B L ty E i k hu hi v l.length _ hown, ?_, ⟨rfl, rfl, rfl, Nat.le_refl _, fun _ _ _ => rfl⟩⟩
    rw [List.append_nil]; exact hown
  | some ad =>
    subst hA
    have hne : ∀ j u, (m.flatMap en)[j]? = some u → w.cell? (ad.add j) = some u := fun j u hj => by
      have hjl := (List.getElem?_eq_some_iff.1 hj).1
      rw [flat_len hE.len] at hjl
      have hq : j / k < m.length := Nat.div_lt_of_lt_mul (by rw [Nat.mul_comm]; exact hjl)
      have h4 := flat_at hE.len m (j / k) (j % k) m[j / k] (List.getElem?_eq_getElem hq) (Nat.mod_lt _ hE.pos)
      rw [show j / k * k + j % k = j by rw [Nat.mul_comm]; exact Nat.div_add_mod j k, hj] at h4
      obtain ⟨b, o, e, _, _, hr⟩ := hm.lst (Nat.lt_of_le_of_lt (Nat.zero_le _) hq)
      obtain rfl : ad = ⟨b, o, none⟩ := Option.some.inj e
      have h5 := hr (j / k) m[j / k] (List.getElem?_eq_getElem hq) (j % k) u h4.symm
      rw [Addr.add_mid]
      rwa [show o + j / k * k + j % k = o + j by have := Nat.div_add_mod j k; rw [Nat.mul_comm] at this; omega] at h5
    obtain ⟨v', w', hr, ho, hg, _⟩ := run_append_own (P := Try.prog) w B L ty E i z k i.bytes hu hi hz h1 rfl h3 hE.pos v l.length _ hown ad n cap (m.flatMap en) (by rw [flat_len hE.len, hm.len]) hne
      (fun u hu => by obtain ⟨x, _, hx⟩ := List.mem_flatMap.1 hu; exact hE.one x u hx) (by unfold maxLen; omega)
      (Nat.le_trans (Nat.mul_le_mul hsz (Nat.le_trans h2 (show 16 * k + 16 ≤ 16016 by omega))) (by omega)) hB
    refine ⟨v', w', hr, ?_, hg⟩
    unfold OwnX
    rw [List.length_append, List.flatMap_append, hm.len]
    exact ho
theorem wappX (hE : EltX E k en) (hu : Try.prog.underlying L = some (.slice E)) (hs : a.eval s = v) (hx : a.eval x = .slice A n cap) (hown : OwnX E k en w B v l) (hm : Sli k en S w A m n cap) (hsz : l.length + n ≤ 1000000) (hk : k ≤ 1000) (hB : B ≤ w.heap.size)
    (h : ∀ v' w', OwnX E k en w' B v' (l ++ m) → w.grownBy w' v.ownBlock → wpList Try.prog ops Q rest (a.put dst v') w') :
    wpList Try.prog ops Q (⟨dst, .call { callee := .builtin .append, args := #[s, x], argTypes := #[L, L] }, ty, pos, after, none⟩ :: rest) a w := by
  obtain ⟨v', w', hr, ho, hg⟩ := run_appX (ty := ty) hE hu hown hm hsz hk hB
  refine wpList_plain rfl fun K hK => ?_
  unfold Oper.wp execOp
  simp only [resolve, invoke, builtin, Sem.run_bind, Sem.run_pure, Result.andThen_ok, List.map_toArray, List.map_cons, List.map_nil, hs, hx, hr]
  exact hK _ _ (h v' w' ho hg)
end
/-- A piece of a slice. -/
theorem run_slX {L E : TypeId} {n cap i j : Nat} (hE : EltX E k en) (hu : Try.prog.underlying L = some (.slice E)) (hel : Try.prog.elem L = E) (h : Sli k en S w A l n cap) (hij : i ≤ j) (hj : j ≤ n) :
    ∃ A', (Instr.sliceAt L (.slice A n cap) (some (.int .i64 i)) (some (.int .i64 j)) none).run Try.prog w = .ok (.slice A' (j - i) (cap - i)) w ∧ Sli k en S w A' ((l.drop i).take (j - i)) (j - i) (cap - i) := by
  obtain ⟨ie, z, hi, hz, h1, h2, h3⟩ := hE.info
  have hc := h.cap
  have hm := h.max
  have hsz : (sizeOf (Try.prog.elem L)).run Try.prog w = .ok k w := by rw [hel]; simp [sizeOf, typeInfo, hi, h1]
  have hu' : Try.prog.underlying L = some (.slice (Try.prog.elem L)) := by rw [hel]; exact hu
  refine ⟨if cap = i then A else A.map (·.add (i * k)), ?_, ?_⟩
  · rw [run_sliceAt_slice w L _ _ _ _ hu', run_slice_lh w L A n cap hu' .i64 .i64 i j (by omega) (by omega) (by omega), hsz]
    simp only [Result.andThen, sliced, Int.toNat_natCast]
  · refine ⟨by rw [List.length_take, List.length_drop, h.len]; omega, by omega, by omega, fun e => ?_, fun hn => ?_⟩
    · by_cases hci : cap = i
      · exact ⟨by omega, by omega⟩
      · rw [if_neg hci] at e
        cases hA : A with
        | none => have := h.none hA; exact ⟨by omega, by omega⟩
        | some a => rw [hA] at e; cases e
    · rw [List.length_take, List.length_drop] at hn
      obtain ⟨b, o, rfl, hS, hl, hr⟩ := h.lst (by omega)
      have hll := h.len
      rw [if_neg (by omega)]
      refine ⟨b, o + i * k, by rw [Option.map_some, Addr.add_mid], hS, hl, fun q x hq => ?_⟩
      have hql := (List.getElem?_eq_some_iff.1 hq).1
      rw [List.length_take, List.length_drop] at hql
      rw [List.getElem?_take_of_lt (by omega), List.getElem?_drop] at hq
      have := hr (i + q) x hq
      rwa [show o + (i + q) * k = o + i * k + q * k by rw [Nat.add_mul]; omega] at this
end
end Go.Proofs.Ytclmdakgkiponaa
set_option maxRecDepth 100000
namespace Go.Proofs.Ytclmdakgkiponaa
open Go.RowKit
/-- n sectors, one behind the other. -/
def secs (n : Nat) (F : Nat → Nat → Nat) : Array Value := row (n * 64) fun j => .int .u8 (F (j / 64) (j % 64))
theorem size_secs {n : Nat} {F : Nat → Nat → Nat} : (secs n F).size = n * 64 := size_row
theorem get_secs {n : Nat} {F : Nat → Nat → Nat} {i k : Nat} (hi : i < n) (hk : k < 64) : (secs n F)[i * 64 + k]? = some (.int .u8 (F i k)) := by
  unfold secs
  rw [get_row_lt (by omega)]
  rw [show (i * 64 + k) / 64 = i by omega, show (i * 64 + k) % 64 = k by omega]
theorem secs_ext {n : Nat} {F G : Nat → Nat → Nat} (h : ∀ i k, i < n → k < 64 → F i k = G i k) : secs n F = secs n G :=
  row_ext fun j hj => by rw [h (j / 64) (j % 64) (by omega) (Nat.mod_lt _ (by omega))]
theorem get_sec_list {f : Nat → Nat} {j : Nat} {v : Value} (h : (sec f).toList[j]? = some v) : j < 64 ∧ v = .int .u8 (f j) := by
  rw [Array.getElem?_toList] at h
  unfold sec at h
  rw [get_row] at h
  split at h
  · exact ⟨‹_›, (Option.some.inj h).symm⟩
  · cases h
theorem range_secs {w : World} {g n i : Nat} {t : TypeId} {F : Nat → Nat → Nat} (hb : Blk w g t (secs n F)) (hi : i < n) : w.rangeAt g (0 + i * 64) (sec (F i)).toList := fun j v hv => by
  obtain ⟨hj, rfl⟩ := get_sec_list hv
  rw [hb.cell, Nat.zero_add]
  exact get_secs hi hj

theorem extract_secs {n i : Nat} {F : Nat → Nat → Nat} (hi : i < n) : (secs n F).extract (i * 64) (i * 64 + 64) = sec (F i) := by
  apply Array.ext_getElem?
  intro k
  rw [Array.getElem?_extract, size_secs]
  unfold sec
  rw [get_row]
  by_cases hk : k < 64
  · rw [if_pos hk, if_pos (by omega)]
    exact get_secs hi hk
  · rw [if_neg hk, if_neg (by omega)]
theorem secs_one {n : Nat} {F : Nat → Nat → Nat} : (secs n F).all (·.oneCell') = true := row_one fun _ _ => rfl
theorem secs_set {n i k v : Nat} {F : Nat → Nat → Nat} (hk : k < 64) : (secs n F).setIfInBounds (i * 64 + k) (.int .u8 v) = secs n fun j l => if j = i ∧ l = k then v else F j l := by
  unfold secs
  rw [row_set]
  refine row_ext fun j _ => ?_
  by_cases h : j = i * 64 + k
  · have e1 : j / 64 = i := by omega
    have e2 : j % 64 = k := by omega
    simp [h, show (i * 64 + k) / 64 = i by omega, show (i * 64 + k) % 64 = k by omega]
  · have e : ¬ (j / 64 = i ∧ j % 64 = k) := by omega
    simp [h, e]
theorem Blk.at_ {w : World} {g n i k o : Nat} {t : TypeId} {F : Nat → Nat → Nat} (hb : Blk w g t (secs n F)) (hi : i < n) (hk : k < 64) (ho : o = i * 64 + k) : w.cell? ⟨g, o, none⟩ = some (.int .u8 (F i k : Nat)) := by
  rw [ho, hb.cell]; exact get_secs hi hk
theorem fold_row (off N : Nat) : ∀ (cs : List Value) (k : Nat) (g : Nat → Value),
    (cs.zipIdx k).foldl (fun acc x => acc.setIfInBounds (off + x.2) x.1) (row N g) = row N fun j => if off + k ≤ j ∧ j < off + k + cs.length then cs.getD (j - (off + k)) undef else g j
  | [], k, g => by
    simp only [List.zipIdx_nil, List.foldl_nil, List.length_nil, Nat.add_zero]
    exact row_ext fun j _ => by rw [if_neg (by omega)]
  | c :: cs, k, g => by
    rw [List.zipIdx_cons, List.foldl_cons, row_set, fold_row off N cs (k + 1)]
    refine row_ext fun j _ => ?_
    simp only [List.length_cons]
    by_cases h1 : j = off + k
    · subst h1
      rw [if_neg (by omega), if_pos rfl, if_pos (by omega), Nat.sub_self]; rfl
    · by_cases h2 : off + (k + 1) ≤ j ∧ j < off + (k + 1) + cs.length
      · rw [if_pos h2, if_pos (by omega), show j - (off + k) = (j - (off + (k + 1))) + 1 by omega]; rfl
      · rw [if_neg h2, if_neg h1]
        by_cases h3 : off + k ≤ j ∧ j < off + k + (cs.length + 1)
        · omega
        · rw [if_neg h3]
/-- The parts of a literal, from place i on. -/
def partsFrom : Nat → List (Nat → Nat) → List (Nat × Value)
  | _, [] => []
  | i, f :: l => (i, .agg (sec f)) :: partsFrom (i + 1) l
theorem getD_sec_list {f : Nat → Nat} {j : Nat} (h : j < 64) : (sec f).toList.getD j undef = .int .u8 (f j) := by
  rw [List.getD_eq_getElem?_getD, Array.getElem?_toList, get_sec h]; rfl
theorem fill_secs (N : Nat) {place : Nat → Option (Nat × Nat)} (hpl : ∀ i, i < N → place i = some (i * 64, 64)) : ∀ (l : List (Nat → Nat)) (i : Nat) (g : Nat → Value), i + l.length ≤ N →
    Instr.fill place (row (N * 64) g) (partsFrom i l) = some (row (N * 64) fun j => if i * 64 ≤ j ∧ j < (i + l.length) * 64 then .int .u8 (l.getD (j / 64 - i) (fun _ => 0) (j % 64)) else g j)
  | [], i, g, _ => by
    simp only [partsFrom, Instr.fill, List.length_nil, Nat.add_zero, Option.some.injEq]
    exact row_ext fun j _ => by rw [if_neg (by omega)]
  | f :: l, i, g, h => by
    simp only [List.length_cons] at h
    simp only [partsFrom, Instr.fill, Value.cells, size_sec, size_row, hpl i (by omega)]
    rw [if_neg (by simp; omega)]
    have e : (sec f).zipIdx.foldl (fun cs (c, j) => cs.setIfInBounds (i * 64 + j) c) (row (N * 64) g) = row (N * 64) fun j => if i * 64 ≤ j ∧ j < i * 64 + 64 then .int .u8 (f (j - i * 64)) else g j := by
      rw [← Array.foldl_toList, Array.toList_zipIdx]
      refine (fold_row (i * 64) (N * 64) (sec f).toList 0 g).trans ?_
      simp only [Array.length_toList, size_sec, Nat.add_zero]
      refine row_ext fun j _ => ?_
      by_cases hj : i * 64 ≤ j ∧ j < i * 64 + 64
      · rw [if_pos hj, if_pos hj, getD_sec_list (by omega)]
      · rw [if_neg hj, if_neg hj]
    rw [e, fill_secs N hpl l (i + 1) _ (by omega)]
    refine congrArg some (row_ext fun j _ => ?_)
    simp only [List.length_cons]
    by_cases h1 : (i + 1) * 64 ≤ j ∧ j < (i + 1 + l.length) * 64
    · rw [if_pos h1, if_pos (by omega), show j / 64 - i = (j / 64 - (i + 1)) + 1 by omega]; rfl
    · rw [if_neg h1]
      by_cases h2 : i * 64 ≤ j ∧ j < i * 64 + 64
      · rw [if_pos h2, if_pos (by omega), show j / 64 - i = 0 by omega, show j - i * 64 = j % 64 by omega]; rfl
      · rw [if_neg h2, if_neg (by omega)]
theorem range_row {n : Nat} {f : Nat → Value} : (Array.range n).map f = row n f := by
  apply Array.ext_getElem?
  intro k
  rw [get_row]
  by_cases h : k < n <;> simp [h]
section
variable {P : Program} {ops : Array Oper} {Q : Exit → Act → World → Prop} {a : Act} {w : World} {rest : List Oper} {dst : Option Tmp} {ty : TypeId} {pos : String} {after : Array Edge}
/-- A literal of n sectors: a block of its own. -/
theorem run_lit {T e : TypeId} {n : Nat} {parts : Array (Nat × Value)} {ie : TypeInfo} {z : Value} (l : List (Nat → Nat)) (hl : l.length = n) (h0 : 0 < n) (h1 : n ≤ 1000) (hp : parts.toList = partsFrom 0 l)
    (hu : P.underlying T = some (.slice e)) (hie : P.info? e = some ie) (hz : ie.zero = some z) (hs : ie.size = 64) (w : World) :
    (Instr.buildSlice T n parts).run P w = .ok (.slice (some ⟨w.heap.size, 0, none⟩) n n) (w.alloc (.cells (secs n fun i => l.getD i fun _ => 0) e)) := by
  refine run_buildSlice w T e n parts _ ie z hu hie hz (by rw [hs]; omega) (by rw [hs]; omega) ?_
  rw [hs, hp, range_row, fill_secs n (fun _ _ => rfl) l 0 _ (by omega)]
  refine congrArg some (row_ext fun j hj => ?_)
  rw [if_pos (by omega), Nat.sub_zero]
end
end Go.Proofs.Ytclmdakgkiponaa
set_option maxRecDepth 100000
namespace Go.Proofs.Ytclmdakgkiponaa
open Go.ChangeShapes Go.WideShapes Go.ChangeAt Go.RowKit
/-- Places one behind the other. -/
def Consec : Nat → List (Nat × Nat) → Prop
  | _, [] => True
  | off, (o, n) :: l => o = off ∧ Consec (off + n) l
/-- The parts of a literal, from field i on. -/
def partsAt : Nat → List Value → List (Nat × Value)
  | _, [] => []
  | i, v :: l => (i, v) :: partsAt (i + 1) l
theorem fold_list (pre z : List Value) : ∀ (cs : List Value) (k : Nat), k + cs.length ≤ z.length →
    (cs.zipIdx k).foldl (fun (acc : Array Value) x => acc.setIfInBounds (pre.length + x.2) x.1) (pre ++ z).toArray = (pre ++ (z.take k ++ cs ++ z.drop (k + cs.length))).toArray
  | [], k, h => by
    simp only [List.zipIdx_nil, List.foldl_nil, List.length_nil, Nat.add_zero, List.append_nil, List.take_append_drop]
  | c :: cs, k, h => by
    simp only [List.length_cons] at h
    rw [List.zipIdx_cons, List.foldl_cons]
    have e : ((pre ++ z).toArray).setIfInBounds (pre.length + k) c = (pre ++ (z.set k c)).toArray := by
      rw [List.setIfInBounds_toArray, List.set_append_right _ _ (by omega), Nat.add_sub_cancel_left]
    show ((cs.zipIdx (k + 1)).foldl _ (((pre ++ z).toArray).setIfInBounds (pre.length + k) c)) = _
    rw [e, fold_list pre (z.set k c) cs (k + 1) (by rw [List.length_set]; omega)]
    congr 2
    rw [List.drop_set_of_lt (by omega), List.take_set, List.length_cons, show k + 1 + cs.length = k + (cs.length + 1) by omega]
    congr 1
    rw [List.take_add_one, List.getElem?_eq_getElem (show k < z.length by omega), Option.toList_some, List.set_append_right _ _ (by rw [List.length_take]; omega)]
    rw [List.length_take, Nat.min_eq_left (by omega), Nat.sub_self, List.set_cons_zero, List.append_assoc]
    rfl
theorem fill_consec {place : Nat → Option (Nat × Nat)} : ∀ (vs : List Value) (ss : List (Nat × Nat)) (pre z : List Value) (i : Nat), Consec pre.length ss → vs.map (·.cells.size) = ss.map (·.2) →
    ((ss.map (·.2)).sum ≤ z.length) → (∀ j, j < ss.length → place (i + j) = ss[j]?) →
    Instr.fill place (pre ++ z).toArray (partsAt i vs) = some (pre ++ (vs.flatMap (·.cells.toList) ++ z.drop (ss.map (·.2)).sum)).toArray
  | [], ss, pre, z, i, _, h, _, _ => by
    have : ss = [] := by simpa using h.symm
    subst this
    simp [partsAt, Instr.fill]
  | v :: vs, [], pre, z, i, _, h, _, _ => by simp at h
  | v :: vs, (o, n) :: ss, pre, z, i, hc, h, hz, hp => by
    obtain ⟨rfl, hc⟩ := hc
    simp only [List.map_cons, List.cons.injEq, List.sum_cons] at h hz
    obtain ⟨h1, h2⟩ := h
    have hpl := hp 0 (by simp)
    simp only [Nat.add_zero, List.getElem?_cons_zero] at hpl
    rw [partsAt, Instr.fill]
    simp only [hpl]
    rw [if_neg (by simp; omega)]
    have e : v.cells.zipIdx.foldl (fun (cs : Array Value) (c, j) => cs.setIfInBounds (pre.length + j) c) (pre ++ z).toArray = ((pre ++ v.cells.toList) ++ z.drop n).toArray := by
      rw [← Array.foldl_toList, Array.toList_zipIdx]
      refine (fold_list pre z v.cells.toList 0 (by rw [Array.length_toList]; omega)).trans ?_
      rw [List.take_zero, List.nil_append, Array.length_toList, Nat.zero_add, h1, List.append_assoc]
    rw [e, fill_consec vs ss (pre ++ v.cells.toList) (z.drop n) (i + 1) (by have e2 : (pre ++ v.cells.toList).length = pre.length + n := (by rw [List.length_append, show v.cells.toList.length = n from Array.length_toList.trans h1]); rw [e2]; exact hc) h2 (by rw [List.length_drop]; omega) (fun j hj => by
      have := hp (j + 1) (by simp only [List.length_cons]; omega)
      rwa [List.getElem?_cons_succ, show i + (j + 1) = i + 1 + j by omega] at this)]
    rw [List.flatMap_cons, List.drop_drop, List.map_cons, List.sum_cons]
    simp only [List.append_assoc]
/-- A struct out of all its fields. -/
theorem built_struct {T : TypeId} {fs : Array Field} {ss : List (Nat × Nat)} {N : Nat} (hz : ((Try.prog.info? T).bind (·.zero)).map (·.cells.size) = some N) (hf : Try.prog.underlying T = some (.struct fs))
    (hp : fs.toList.mapM (fun f => (Try.prog.info? f.type).map fun i => (f.offset, i.size)) = some ss) (hc : Consec 0 ss) (hN : (ss.map (·.2)).sum = N) (vs : List Value) (hv : vs.map (·.cells.size) = ss.map (·.2)) :
    Try.prog.built T (partsAt 0 vs) = some (vs.flatMap (·.cells.toList)).toArray := by
  have h1 : ∃ i z, Try.prog.info? T = some i ∧ i.zero = some z ∧ z.cells.size = N := by
    cases h : Try.prog.info? T with
    | none => rw [h] at hz; cases hz
    | some i =>
      rw [h] at hz
      cases h2 : i.zero with
      | none => simp [h2] at hz
      | some z => simp [h2] at hz; exact ⟨i, z, rfl, h2, hz⟩
  obtain ⟨i, z, hi, hz, hzN⟩ := h1
  unfold Program.built
  rw [hi, hf]
  simp only [hz, hp]
  have := fill_consec (place := fun i => ss.toArray[i]?) vs ss [] z.cells.toList 0 hc hv (by rw [Array.length_toList]; omega) (fun j _ => by rw [Nat.zero_add, List.getElem?_toArray])
  simp only [List.nil_append] at this
  rw [List.drop_eq_nil_of_le (by rw [Array.length_toList]; omega), List.append_nil, Array.toArray_toList] at this
  exact this
end Go.Proofs.Ytclmdakgkiponaa
