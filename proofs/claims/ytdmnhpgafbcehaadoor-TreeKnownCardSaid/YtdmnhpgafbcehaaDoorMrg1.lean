/-
  Small general lemmas of the walks: facts hidden from the walk, quiet calls inside regions that draw their order, worlds behind draws.
  Arrays by value, told by a function of the index; blocks of memory that are known whole.
  Slices of bytes, told as lists.
  Slices of numbers of any kind: read out of one row; made by a call for itself, append.
  Texts of bytes.
  Numbers, texts and rows as bytes, and tapes, in plain numbers (no text of the program).
  Worlds behind draws alone, and behind one new row.
  Worlds that differ in one block, and in new ones.
  Several cells of a block stored one behind the other.
  '==' of two arrays of integers.
  A region that draws its order, where each operation yields ONE value whatever has come up ahead of it, and a class of worlds (that may depend on what has come up) is handed on:   one look at each operation, at the lexical frame, serves every order. A tail in a fixed order may stand behind.
  Rows of n bytes, by value and in memory, of any such type: loads, stores, new variables, returns, comparisons.
  Two slices of the call's own beside each other: where the result of an append lies.
  Tags: words of the document in plain numbers; what the program's messages answer, as hypotheses of the laws (LeafC, RestC).
  The type of slices of bytes; bytes out of a literal.
  Contracts of casemateref17.part and Plain: the document's rows of one part.
  Contract of casemateref17.Numbered: the document's row of a number and a sector.
  SHA-256 in plain numbers: what one step, one pass and all passes make; nothing of the program stands here.
  Contracts of math/bits.RotateLeft32 and sha.rot over this translation.
-/
import Derived.WalkKit
import Derived.BigQuiet
import Derived.Deep.QuietTactic
import Derived.Deep.Draws
import Derived.Below
import Derived.Deep.MidRow
import Derived.Test.YtdmnhpgafbcehaaDoorRows
import Derived.ProofKit
import Derived.OpenShut
import Derived.StillTailTactics
import Derived.Deep.Cut
import Derived.Outline
import Derived.Laws.AppendOwn
import Derived.Laws.AppendOwnNone
import Derived.Laws.IdiomStrings
import Derived.Laws.StructEq
import Derived.StillTail
import Derived.Deep.Quiet
import Derived.KernelRfl
import Derived.Deep.DeepAppendRoom
import Derived.Deep.WholeRow
set_option linter.unusedVariables false
set_option linter.unusedSimpArgs false
set_option maxRecDepth 100000
namespace Go.Proofs.YtdmnhpgafbcehaaDoor
open Go.RowKit
theorem below_drewN {B : Nat} {a w : World} (h : Below B a w) (n : Nat) : Below B a (w.drewN n) := ⟨h.os, h.tape, h.output, h.size, h.block⟩
end Go.Proofs.YtdmnhpgafbcehaaDoor
set_option maxRecDepth 100000
namespace Go.Proofs.YtdmnhpgafbcehaaDoor
open Go.RowKit
theorem hid {p : Prop} (h : p) : RowKit.Hid p := h
/-- n cells, each told by its index. -/
def row (n : Nat) (f : Nat → Value) : Array Value := Array.ofFn (n := n) fun i => f i.val
theorem size_row {n : Nat} {f : Nat → Value} : (row n f).size = n := by simp [row]
theorem get_row {n : Nat} {f : Nat → Value} (k : Nat) : (row n f)[k]? = if k < n then some (f k) else none := by
  unfold row
  by_cases h : k < n
  · simp [h]
  · simp [h]
theorem get_row_lt {n : Nat} {f : Nat → Value} {k : Nat} (h : k < n) : (row n f)[k]? = some (f k) := by rw [get_row, if_pos h]
theorem row_ext {n : Nat} {f g : Nat → Value} (h : ∀ k, k < n → f k = g k) : row n f = row n g := by
  apply Array.ext_getElem?
  intro k
  rw [get_row, get_row]
  split
  · rw [h k ‹_›]
  · rfl
theorem row_set {n : Nat} {f : Nat → Value} {k : Nat} {v : Value} : (row n f).setIfInBounds k v = row n fun j => if j = k then v else f j := by
  apply Array.ext_getElem?
  intro j
  rw [Array.getElem?_setIfInBounds, get_row, get_row, size_row]
  by_cases hj : k = j
  · subst hj; simp
  · simp [hj, Ne.symm hj]
/-- 64 bytes. -/
def sec (f : Nat → Nat) : Array Value := row 64 fun k => .int .u8 (f k)
theorem row_one {n : Nat} {f : Nat → Value} (h : ∀ k, k < n → (f k).oneCell' = true) : (row n f).all (·.oneCell') = true := by
  rw [Array.all_eq_true]
  intro i hi
  have hi' : i < n := by simpa [size_row] using hi
  have e : (row n f)[i] = f i := by
    have := get_row (f := f) (n := n) i
    rw [if_pos hi', Array.getElem?_eq_getElem hi] at this
    exact Option.some.inj this
  rw [e]; exact h i hi'
/-! ### Blocks that are known whole -/
def Blk (w : World) (g : Nat) (t : TypeId) (cs : Array Value) : Prop := w.heap[g]? = some (.cells cs t (0, 0))
section
variable {w w' : World} {g : Nat} {t : TypeId} {cs : Array Value}
theorem Blk.lt (h : Blk w g t cs) : g < w.heap.size := by
  rcases Nat.lt_or_ge g w.heap.size with hlt | hge
  · exact hlt
  · unfold Blk at h; rw [Array.getElem?_eq_none hge] at h; cases h
theorem Blk.cell (h : Blk w g t cs) (i : Nat) : w.cell? ⟨g, i, none⟩ = cs[i]? := cell_of_row w g i cs t (0, 0) h
theorem Blk.frozen (h : Blk w g t cs) (i : Nat) : w.frozen? ⟨g, i, none⟩ = false := by
  unfold Blk at h
  simp [World.frozen?, h]
theorem Blk.new (w : World) (t : TypeId) (cs : Array Value) : Blk (w.alloc (.cells cs t)) w.heap.size t cs := heap_alloc_new w _
theorem Blk.drew (h : Blk w g t cs) : Blk w.drew g t cs := h
theorem Blk.drewN (h : Blk w g t cs) (n : Nat) : Blk (w.drewN n) g t cs := h
theorem Blk.alloc (h : Blk w g t cs) (o : Obj) : Blk (w.alloc o) g t cs := (Below.heap_alloc w o g h.lt).trans h
theorem Blk.below {B : Nat} (h : Blk w g t cs) (hb : Below B w w') (hg : g < B) : Blk w' g t cs := (hb.block g hg).trans h
theorem Blk.setCell_same (h : Blk w g t cs) (i : Nat) (v : Value) : Blk (w.setCell ⟨g, i, none⟩ v) g t (cs.setIfInBounds i v) := by
  rw [setCell_eq_setRow w g i cs t (0, 0) v h]
  exact setRow_heap w g cs _ t _ h
theorem Blk.setCell_other (h : Blk w g t cs) {p : Addr} (hp : p.block ≠ g) (v : Value) : Blk (w.setCell p v) g t cs := (Below.heap_setCell w p v g (Ne.symm hp)).trans h
theorem Blk.setRow_same (h : Blk w g t cs) (cs' : Array Value) : Blk (w.setRow g cs') g t cs' := setRow_heap w g cs cs' t _ h
theorem Blk.setRow_other {g' : Nat} (h : Blk w g t cs) (hp : g' ≠ g) (cs' : Array Value) : Blk (w.setRow g' cs') g t cs := (Go.setRow_other w g' g cs' (Ne.symm hp)).trans h
theorem Blk.range (h : Blk w g t cs) (o n : Nat) : w.rangeAt g o (cs.extract o (o + n)).toList := World.rangeAt_of_block h o n
end
theorem below_setRow {B : Nat} {a w : World} (h : Below B a w) {g : Nat} (hg : B ≤ g) (cs : Array Value) : Below B a (w.setRow g cs) :=
  h.trans ⟨rfl, rfl, rfl, by simp, fun k hk => Go.setRow_other w g k cs (by omega)⟩
/-- What is stored where it stands turns nothing. -/
theorem Blk.setRow_id {w : World} {g : Nat} {t : TypeId} {cs : Array Value} (h : Blk w g t cs) : w.setRow g cs = w := setRow_self w g cs t (0, 0) h
theorem Blk.inj {w : World} {g : Nat} {t t' : TypeId} {cs cs' : Array Value} (h : Blk w g t cs) (h' : Blk w g t' cs') : cs = cs' := by
  unfold Blk at h h'
  rw [h] at h'
  simp only [Option.some.injEq, Obj.cells.injEq] at h'
  exact h'.1
theorem Blk.top {w : World} {n : Nat} {t : TypeId} {c cs : Array Value} (h : c = cs) (hn : n = w.heap.size) : Blk (w.alloc (.cells c t)) n t cs := by
  subst h hn; exact Blk.new w t c

/-! ### One operation of the walk: a whole sector out of, and into, a block; out of the middle of one -/
section
variable {P : Program} {ops : Array Oper} {Q : Exit → Act → World → Prop} {a : Act} {w : World} {rest : List Oper} {dst : Option Tmp} {ty : TypeId} {pos : String} {after : Array Edge}
theorem step_load_row {T : TypeId} {x : Operand} {g : Nat} {t : TypeId} {cs : Array Value} {d : TypeDesc} (hb : Blk w g t cs) (hu : P.underlying T = some d) (hd : d.isRow = true)
    (hi : (P.info? T).map (·.size) = some cs.size) (hx : a.eval x = .pointer (some ⟨g, 0, none⟩)) (h : wpList P ops Q rest (a.put dst (.agg cs)) w) :
    wpList P ops Q (⟨dst, .load T x, ty, pos, after, none⟩ :: rest) a w :=
  wpList_load_row rfl T x rfl g hx t cs (0, 0) d hb hu (by cases d <;> first | rfl | exact hd) hi h
theorem step_store_row {T : TypeId} {x y : Operand} {g : Nat} {t : TypeId} {old cs : Array Value} (hb : Blk w g t old) (hi : (P.info? T).map (·.size) = some cs.size) (hs : old.size = cs.size)
    (h1 : cs.all (·.oneCell') = true) (hx : a.eval x = .pointer (some ⟨g, 0, none⟩)) (hy : a.eval y = .agg cs) (h : wpList P ops Q rest (a.put dst undef) (w.setRow g cs)) :
    wpList P ops Q (⟨dst, .store T x y, ty, pos, after, none⟩ :: rest) a w :=
  wpList_store_row rfl T x y rfl g cs hx hy t old hb hi hs h1 h
theorem step_load_mid {T : TypeId} {x : Operand} {g o : Nat} {cs : List Value} {d : TypeDesc} (hc : w.rangeAt g o cs) (hu : P.underlying T = some d) (hd : d.isRow = true)
    (hi : (P.info? T).map (·.size) = some cs.length) (hx : a.eval x = .pointer (some ⟨g, o, none⟩)) (h : wpList P ops Q rest (a.put dst (.agg cs.toArray)) w) :
    wpList P ops Q (⟨dst, .load T x, ty, pos, after, none⟩ :: rest) a w :=
  wpList_load_mid rfl T x rfl g o hx cs d hc hu hd hi h
theorem ret_row {fn : Func} {R : Ending → World → Prop} {p : Tmp} {T : TypeId} {g : Nat} {t : TypeId} {cs : Array Value} {d : TypeDesc} (hr : fn.results = #[.cell p T]) (hb : Blk w g t cs)
    (hu : P.underlying T = some d) (hd : d.isRow = true) (hi : (P.info? T).map (·.size) = some cs.size) (hp : a.tmps.getD p undef = .pointer (some ⟨g, 0, none⟩)) (hdf : a.defers = [])
    (hR : R (.returned (.agg cs)) w) : bodyPost P fn R .ret a w :=
  bodyPost_ret (results_cell_row hr a.tmps w g t cs (0, 0) d hp hb hu (by cases d <;> first | rfl | exact hd) hi) hdf hR
end
end Go.Proofs.YtdmnhpgafbcehaaDoor
set_option maxRecDepth 100000
namespace Go.Proofs.YtdmnhpgafbcehaaDoor
open Go.ChangeShapes Go.WideShapes Go.ChangeAt Go.RowKit
/-- A slice of the bytes of l, in one row below block B. -/
def Byt (w : World) (B : Nat) (A : Option Addr) (l : List Nat) : Prop :=
  0 < l.length → ∃ b o, A = some ⟨b, o, none⟩ ∧ b < B ∧ ∀ i, i < l.length → w.cell? ⟨b, o + i, none⟩ = some (.int .u8 (l.getD i 0 : Nat))
theorem Byt.below {B B' : Nat} {w w' : World} {A : Option Addr} {l : List Nat} (h : Byt w B A l) (hb : Below B' w w') (hB : B ≤ B') : Byt w' B A l := fun hn => by
  obtain ⟨b, o, rfl, hl, hr⟩ := h hn
  exact ⟨b, o, rfl, hl, fun i hi => (hb.cell (p := ⟨b, o + i, none⟩) (by show b < B'; omega)).trans (hr i hi)⟩
theorem Byt.more {B B' : Nat} {w : World} {A : Option Addr} {l : List Nat} (h : Byt w B A l) (hB : B ≤ B') : Byt w B' A l := fun hn => by
  obtain ⟨b, o, rfl, hl, hr⟩ := h hn
  exact ⟨b, o, rfl, by omega, hr⟩
def B256 (l : List Nat) : Prop := ∀ x ∈ l, x < 256
theorem B256.take {l : List Nat} (h : B256 l) (n : Nat) : B256 (l.take n) := fun x hx => h x (List.mem_of_mem_take hx)
theorem B256.drop {l : List Nat} (h : B256 l) (n : Nat) : B256 (l.drop n) := fun x hx => h x (List.mem_of_mem_drop hx)
theorem B256.append {l k : List Nat} (h : B256 l) (h' : B256 k) : B256 (l ++ k) := fun x hx => (List.mem_append.1 hx).elim (h x) (h' x)
theorem getD_take {l : List Nat} {n i : Nat} (h : i < n) : (l.take n).getD i 0 = l.getD i 0 := by
  rw [List.getD_eq_getElem?_getD, List.getD_eq_getElem?_getD, List.getElem?_take_of_lt h]
theorem getD_drop {l : List Nat} {n i : Nat} : (l.drop n).getD i 0 = l.getD (n + i) 0 := by
  rw [List.getD_eq_getElem?_getD, List.getD_eq_getElem?_getD, List.getElem?_drop]
theorem Byt.take {w : World} {B : Nat} {A : Option Addr} {l : List Nat} (h : Byt w B A l) (n : Nat) : Byt w B A (l.take n) := fun hn => by
  rw [List.length_take] at hn
  obtain ⟨b, o, rfl, hl, hr⟩ := h (by omega)
  refine ⟨b, o, rfl, hl, fun i hi => ?_⟩
  rw [List.length_take] at hi
  rw [getD_take (by omega)]
  exact hr i (by omega)
theorem Byt.drop {w : World} {B b o : Nat} {l : List Nat} (h : Byt w B (some ⟨b, o, none⟩) l) (n : Nat) : Byt w B (some ⟨b, o + n, none⟩) (l.drop n) := fun hn => by
  rw [List.length_drop] at hn
  obtain ⟨b', o', e, hl, hr⟩ := h (by omega)
  cases e
  refine ⟨b, o + n, rfl, hl, fun i hi => ?_⟩
  rw [List.length_drop] at hi
  rw [getD_drop, Nat.add_assoc]
  exact hr (n + i) (by omega)
theorem Byt.none {w : World} {B : Nat} {A : Option Addr} {l : List Nat} (h : l.length = 0) : Byt w B A l := fun hn => by omega
def lenOf : Value → Nat
  | .slice _ n _ => n
  | _ => 0
theorem nums_at {l : List Nat} {i : Nat} (h : i < l.length) : l.getD i 0 = l[i] := by
  rw [List.getD_eq_getElem?_getD, List.getElem?_eq_getElem h]; rfl
end Go.Proofs.YtdmnhpgafbcehaaDoor
set_option maxRecDepth 100000
namespace Go.Proofs.YtdmnhpgafbcehaaDoor
open Go.ChangeShapes Go.WideShapes Go.ChangeAt Go.RowKit
/-- A type of slices, of numbers of kind k. -/
structure Elt (S e : TypeId) (k : IntKind) : Prop where
  und : Tryd.prog.underlying S = some (.slice e)
  inf : ∃ i : TypeInfo, Tryd.prog.info? e = some i ∧ i.zero = some (.int k 0) ∧ i.size = 1 ∧ i.bytes ≤ 8
theorem elt_of {S e : TypeId} {k : IntKind} (h : Tryd.prog.underlying S = some (.slice e)) (h1 : (Tryd.prog.info? e).map (·.size) = some 1) (h2 : (Tryd.prog.info? e).map (fun i => decide (i.bytes ≤ 8)) = some true) (h3 : (Tryd.prog.info? e).bind (·.zero) = some (.int k 0)) : Elt S e k := by
  refine ⟨h, ?_⟩
  cases hi : Tryd.prog.info? e with
  | none => rw [hi] at h1; cases h1
  | some i =>
    rw [hi] at h1 h2 h3
    simp only [Option.map_some, Option.some.injEq, decide_eq_true_eq, Option.bind_some] at h1 h2 h3
    exact ⟨i, rfl, h3, h1, h2⟩
def nums (k : IntKind) (l : List Nat) : List Value := l.map fun x => Value.int k (x : Nat)
theorem nums_length (k : IntKind) (l : List Nat) : (nums k l).length = l.length := List.length_map _
theorem nums_append (k : IntKind) (l m : List Nat) : nums k (l ++ m) = nums k l ++ nums k m := List.map_append
theorem nums_get (k : IntKind) {l : List Nat} {i : Nat} (h : i < l.length) : (nums k l)[i]? = some (.int k (l.getD i 0 : Nat)) := by
  unfold nums
  rw [List.getElem?_map, List.getD_eq_getElem?_getD, List.getElem?_eq_getElem h]; rfl
/-- A slice of the numbers of l, in one row below block B. -/
def Nums (k : IntKind) (w : World) (B : Nat) (A : Option Addr) (l : List Nat) : Prop :=
  0 < l.length → ∃ b o, A = some ⟨b, o, none⟩ ∧ b < B ∧ ∀ i, i < l.length → w.cell? ⟨b, o + i, none⟩ = some (.int k (l.getD i 0 : Nat))
theorem Nums.below {k : IntKind} {B B' : Nat} {w w' : World} {A : Option Addr} {l : List Nat} (h : Nums k w B A l) (hb : Below B' w w') (hB : B ≤ B') : Nums k w' B A l := fun hn => by
  obtain ⟨b, o, rfl, hl, hr⟩ := h hn
  exact ⟨b, o, rfl, hl, fun i hi => (hb.cell (p := ⟨b, o + i, none⟩) (by show b < B'; omega)).trans (hr i hi)⟩
theorem Nums.more {k : IntKind} {B B' : Nat} {w : World} {A : Option Addr} {l : List Nat} (h : Nums k w B A l) (hB : B ≤ B') : Nums k w B' A l := fun hn => by
  obtain ⟨b, o, rfl, hl, hr⟩ := h hn
  exact ⟨b, o, rfl, by omega, hr⟩
theorem Nums.byt {w : World} {B : Nat} {A : Option Addr} {l : List Nat} (h : Nums .u8 w B A l) : Byt w B A l := h
theorem Byt.nums {w : World} {B : Nat} {A : Option Addr} {l : List Nat} (h : Byt w B A l) : Nums .u8 w B A l := h
theorem Nums.none {k : IntKind} {w : World} {B : Nat} {A : Option Addr} {l : List Nat} (h : l.length = 0) : Nums k w B A l := fun hn => absurd hn (by omega)
theorem Nums.row {k : IntKind} {w : World} {B g : Nat} {t : TypeId} {cs : Array Value} {l : List Nat} (h : Blk w g t cs) (hg : g < B) (hc : ∀ j, j < l.length → cs[j]? = some (.int k (l.getD j 0 : Nat))) : Nums k w B (some ⟨g, 0, .none⟩) l := fun _ =>
  ⟨g, 0, rfl, hg, fun i hi => by rw [Nat.zero_add, h.cell]; exact hc i hi⟩
/-- v is a slice of the numbers l, in a row of its own from block B on. -/
def Own (e : TypeId) (k : IntKind) (w : World) (B : Nat) (v : Value) (l : List Nat) : Prop := w.ownsRow B e 1 v l.length (nums k l)
section
variable {e : TypeId} {k : IntKind} {w w' : World} {B : Nat} {v : Value} {l : List Nat}
theorem Own.nil : Own e k w B (.slice none 0 0) [] := World.ownsRow_nil w B e 1
theorem Own.empty (w : World) (hB : B ≤ w.heap.size) : Own e k (w.alloc (.cells #[] e)) B (.slice (some ⟨w.heap.size, 0, none⟩) 0 0) [] :=
  World.ownsRow_made w #[] 0 hB (Nat.zero_le _) rfl
theorem Own.form (h : Own e k w B v l) : (v = .slice none 0 0 ∧ l = []) ∨ ∃ g cap, v = .slice (some ⟨g, 0, none⟩) l.length cap ∧ B ≤ g ∧ g < w.heap.size ∧ l.length ≤ cap ∧ cap ≤ maxLen ∧ Nums k w w.heap.size (some ⟨g, 0, none⟩) l := by
  rcases h.2 with ⟨h', h0⟩ | ⟨g, cap, cur, hv, hB, hg, hnc, hcm, hcs, ht⟩
  · exact .inl ⟨h', List.eq_nil_of_length_eq_zero h0⟩
  · have hlt : g < w.heap.size := Blk.lt (t := e) (cs := cur) hg
    refine .inr ⟨g, cap, hv, hB, hlt, hnc, hcm, fun _ => ⟨g, 0, rfl, hlt, fun i hi => ?_⟩⟩
    rw [Nat.zero_add, cell_of_row w g _ cur _ _ hg]
    have h1 := nums_get k hi
    rw [← ht, List.getElem?_take_of_lt (by omega), Array.getElem?_toList] at h1
    exact h1
/-- The same, whichever it is. -/
theorem Own.any (h : Own e k w B v l) : ∃ A cap, v = .slice A l.length cap ∧ l.length ≤ cap ∧ cap ≤ maxLen ∧ Nums k w w.heap.size A l := by
  rcases h.form with ⟨rfl, rfl⟩ | ⟨g, cap, rfl, _, _, h1, h2, h3⟩
  · exact ⟨.none, 0, rfl, Nat.le_refl _, Nat.zero_le _, Nums.none rfl⟩
  · exact ⟨_, cap, rfl, h1, h2, h3⟩
theorem Own.below (h : Own e k w B v l) (hb : Below w.heap.size w w') : Own e k w' B v l := by
  refine ⟨h.1, ?_⟩
  rcases h.2 with h' | ⟨g, cap, cur, hv, hB, hg, hr⟩
  · exact .inl h'
  · exact .inr ⟨g, cap, cur, hv, hB, Blk.below (t := e) (cs := cur) hg hb (Blk.lt (t := e) (cs := cur) hg), hr⟩
theorem Own.alloc (h : Own e k w B v l) (o : Obj) : Own e k (w.alloc o) B v l := World.ownsRow.alloc h o
theorem Own.drew (h : Own e k w B v l) : Own e k w.drew B v l := ⟨h.1, h.2⟩
end
theorem below_grown {B B' : Nat} {w0 w w' w1 : World} {v : Value} {e : TypeId} {k : IntKind} {l : List Nat} (hb : Below B w0 w) (hg : w.grownBy w' v.ownBlock) (ho : Own e k w1 B' v l) (hB : B ≤ B') (hs : B ≤ w0.heap.size) : Below B w0 w' :=
  hb.grown hg (Nat.le_trans hs hb.size) fun g h => Nat.le_trans hB (World.ownsRow.lt ho g h).1
theorem Blk.grown {e : TypeId} {k : IntKind} {w w' w0 : World} {g B : Nat} {t : TypeId} {cs : Array Value} {v : Value} {l : List Nat} (h : Blk w g t cs) (hg : w.grownBy w' v.ownBlock) (ho : Own e k w0 B v l) (hlt : g < B) : Blk w' g t cs :=
  (hg.block g h.lt fun e' => by have := (World.ownsRow.lt ho g e'.symm).1; omega).trans h
theorem Nums.grown {e : TypeId} {k k' : IntKind} {w w' w0 : World} {A : Option Addr} {B B' : Nat} {v : Value} {l m : List Nat} (h : Nums k' w B' A m) (_hB : B' ≤ w.heap.size) (hg : w.grownBy w' v.ownBlock) (ho : Own e k w0 B v l) (hlt : B' ≤ B) : Nums k' w' B' A m := fun hn => by
  obtain ⟨b, o, rfl, hl, hr⟩ := h hn
  exact ⟨b, o, rfl, hl, fun i hi => hg.cell (hr i hi) fun e' => by have := (World.ownsRow.lt ho b e'.symm).1; omega⟩
theorem below_none {B : Nat} {w0 w w' : World} (hb : Below B w0 w) (hg : w.grownBy w' none) (hs : B ≤ w0.heap.size) : Below B w0 w' :=
  hb.grown hg (Nat.le_trans hs hb.size) fun g h => by cases h
theorem Own.heap {e : TypeId} {k : IntKind} {w w' : World} {B : Nat} {v : Value} {l : List Nat} (h : Own e k w B v l) (hh : w'.heap = w.heap) : Own e k w' B v l := by
  refine ⟨h.1, ?_⟩
  rcases h.2 with h' | ⟨g, cap, cur, hv, hB, hg, hr⟩
  · exact .inl h'
  · exact .inr ⟨g, cap, cur, hv, hB, by rw [hh]; exact hg, hr⟩
section
variable {ops : Array Oper} {Q : Exit → Act → World → Prop} {a : Act} {w : World} {rest : List Oper} {dst : Option Tmp} {ty : TypeId} {pos : String} {after : Array Edge} {s x : Operand} {m c B B' : Nat} {v : Value} {l kk : List Nat} {S e : TypeId} {k : IntKind} {ad : Addr}
theorem run_appN (E : Elt S e k) (hown : Own e k w B v l) (hrd : Nums k w B' (some ad) kk) (hk : kk.length = m) (hsz : l.length + m ≤ 1000000) (hB : B ≤ w.heap.size) :
    ∃ v' w', (Builtin.append_ #[S, S] ty #[v, .slice (some ad) m c]).run Tryd.prog w = .ok v' w' ∧ Own e k w' B v' (l ++ kk) ∧ w.grownBy w' v.ownBlock := by
  obtain ⟨i, hi, hz, h1, h2⟩ := E.inf
  subst hk
  obtain ⟨v', w', hr, ho, hg, _⟩ := run_append_own (P := Tryd.prog) w B S ty e i (.int k 0) 1 i.bytes E.und hi hz h1 rfl rfl (by decide) v l.length _ hown ad kk.length c (nums k kk) (by rw [nums_length, Nat.mul_one])
    (fun j u hj => by
      have hjm : j < kk.length := by
        have := (List.getElem?_eq_some_iff.1 hj).1
        rwa [nums_length] at this
      obtain ⟨b, o, e', _, hr⟩ := hrd (by omega)
      obtain rfl : ad = ⟨b, o, none⟩ := Option.some.inj e'
      rw [nums_get k hjm] at hj
      rw [Addr.add_mid, hr j hjm]
      exact hj)
    (fun u hu => by
      obtain ⟨y, _, rfl⟩ := List.mem_map.1 hu
      rfl)
    (by unfold maxLen; omega) (Nat.le_trans (Nat.mul_le_mul hsz h2) (by omega)) hB
  refine ⟨v', w', hr, ?_, hg⟩
  unfold Own
  rw [List.length_append, nums_append]
  exact ho
/-- append of numbers to a slice of the call's own. -/
theorem wappN (E : Elt S e k) (hs : a.eval s = v) (hx : a.eval x = .slice (some ad) m c) (hown : Own e k w B v l) (hrd : Nums k w B' (some ad) kk) (hk : kk.length = m) (hsz : l.length + m ≤ 1000000) (hB : B ≤ w.heap.size)
    (h : ∀ v' w', Own e k w' B v' (l ++ kk) → w.grownBy w' v.ownBlock → wpList Tryd.prog ops Q rest (a.put dst v') w') :
    wpList Tryd.prog ops Q (⟨dst, .call { callee := .builtin .append, args := #[s, x], argTypes := #[S, S] }, ty, pos, after, none⟩ :: rest) a w := by
  obtain ⟨v', w', hr, h1, h2⟩ := run_appN (ty := ty) (c := c) E hown hrd hk hsz hB
  refine wpList_plain rfl fun K hK => ?_
  unfold Oper.wp execOp
  simp only [resolve, invoke, builtin, Sem.run_bind, Sem.run_pure, Result.andThen_ok, List.map_toArray, List.map_cons, List.map_nil, hs, hx, hr]
  exact hK _ _ (h v' w' h1 h2)
theorem wappN_none (E : Elt S e k) (hs : a.eval s = v) (hx : a.eval x = .slice none 0 0) (hown : Own e k w B v l) (h : wpList Tryd.prog ops Q rest (a.put dst v) w) :
    wpList Tryd.prog ops Q (⟨dst, .call { callee := .builtin .append, args := #[s, x], argTypes := #[S, S] }, ty, pos, after, none⟩ :: rest) a w := by
  obtain ⟨i, hi, hz, h1, h2⟩ := E.inf
  refine wpList_plain rfl fun K hK => ?_
  unfold Oper.wp execOp
  have := run_append_owned_none (P := Tryd.prog) w B S ty e i 1 E.und hi v l.length _ hown
  simp only [resolve, invoke, builtin, Sem.run_bind, Sem.run_pure, Result.andThen_ok, List.map_toArray, List.map_cons, List.map_nil, hs, hx, this]
  exact hK _ _ h
theorem wappN_any {A : Option Addr} (E : Elt S e k) (hs : a.eval s = v) (hx : a.eval x = .slice A m c) (h0 : A = none → m = 0 ∧ c = 0) (hown : Own e k w B v l) (hrd : Nums k w B' A kk) (hk : kk.length = m) (hsz : l.length + m ≤ 1000000) (hB : B ≤ w.heap.size)
    (h : ∀ v' w', Own e k w' B v' (l ++ kk) → w.grownBy w' v.ownBlock → wpList Tryd.prog ops Q rest (a.put dst v') w') :
    wpList Tryd.prog ops Q (⟨dst, .call { callee := .builtin .append, args := #[s, x], argTypes := #[S, S] }, ty, pos, after, none⟩ :: rest) a w := by
  cases A with
  | some ad => exact wappN E hs hx hown hrd hk hsz hB h
  | none =>
    obtain ⟨rfl, rfl⟩ := h0 rfl
    obtain rfl := List.eq_nil_of_length_eq_zero hk
    rw [List.append_nil] at h
    exact wappN_none E hs hx hown (h v w hown ⟨rfl, rfl, rfl, Nat.le_refl _, fun _ _ _ => rfl⟩)
end
/-- A literal of one number. -/
theorem nums_one {k : IntKind} {w : World} {t : TypeId} {x : Nat} {v : Value} (h : v = .int k (x : Nat)) {B : Nat} (hB : w.heap.size < B) : Nums k (w.alloc (.cells #[v] t)) B (some ⟨w.heap.size, 0, none⟩) [x] := fun _ =>
  ⟨w.heap.size, 0, rfl, hB, fun i hi => by
    obtain rfl : i = 0 := by simp at hi; omega
    rw [(Blk.top (t := t) rfl rfl).cell, h]; rfl⟩
end Go.Proofs.YtdmnhpgafbcehaaDoor
set_option maxRecDepth 100000
namespace Go.Proofs.YtdmnhpgafbcehaaDoor
open Go.ChangeShapes Go.WideShapes Go.ChangeAt Go.RowKit
def u8s (l : List Nat) : List UInt8 := l.map UInt8.ofNat
theorem u8s_length (l : List Nat) : (u8s l).length = l.length := List.length_map _
/-- A text of these bytes. -/
def str (l : List Nat) : ByteArray := ⟨(u8s l).toArray⟩
theorem run_bytes_str {A : Option Addr} {l : List Nat} {n cap B : Nat} (hl : l.length = n) (h256 : ∀ x ∈ l, x < 256) (h0 : A = none → n = 0 ∧ cap = 0) {w : World} (hA : Byt w B A l) :
    (convert 91 9 (.slice A n cap)).run Tryd.prog w = .ok (.string (str l)) w := by
  by_cases hn : 0 < l.length
  · obtain ⟨b, o, rfl, _, hr⟩ := hA hn
    have h := run_convert_bytes_back (P := Tryd.prog) w 91 9 5 ⟨b, o, none⟩ cap (u8s l) Tryd.underlying91 Tryd.underlying5 Tryd.underlying9 (fun j hj => by
      rw [u8s_length] at hj
      have hg : l.getD j 0 = l[j] := by rw [List.getD_eq_getElem?_getD, List.getElem?_eq_getElem hj]; rfl
      have hlt := h256 l[j] (List.getElem_mem hj)
      rw [Addr.add_mid, hr j hj, hg]
      simp only [u8s, List.getElem_map]
      congr 2
      simp; omega)
    rw [u8s_length, hl] at h
    exact h
  · obtain rfl := List.eq_nil_of_length_eq_zero (show l.length = 0 by omega)
    obtain rfl : n = 0 := hl.symm
    cases A with
    | some ad => exact run_convert_bytes_back (P := Tryd.prog) w 91 9 5 ad cap [] Tryd.underlying91 Tryd.underlying5 Tryd.underlying9 fun j hj => absurd hj (by simp)
    | none =>
      rw [run_convert_bytes_string w 91 9 5 none 0 cap Tryd.underlying91 Tryd.underlying5 Tryd.underlying9]
      simp [Conv.bytesToString, str, u8s]
      rfl
/-- A slice of bytes that came in, of which the first thousand are looked at. -/
structure Arg (w : World) (K : Option Addr) (key : List Nat) (kn kcap : Nat) : Prop where
  len : key.length = kn
  cap : kn ≤ kcap
  max : kcap ≤ maxLen
  b256 : B256 key
  none : K = none → kn = 0 ∧ kcap = 0
  byt : Byt w w.heap.size K key
theorem Arg.cut {w : World} {K : Option Addr} {key : List Nat} {kn kcap : Nat} (h : Arg w K key kn kcap) : Arg w K (key.take 1000) (min kn 1000) kcap where
  len := by rw [List.length_take, h.len]; omega
  cap := by have := h.cap; omega
  max := h.max
  b256 := h.b256.take 1000
  none e := by obtain ⟨h1, h2⟩ := h.none e; exact ⟨by omega, h2⟩
  byt := h.byt.take 1000
theorem Arg.on {w w' : World} {K : Option Addr} {key : List Nat} {kn kcap : Nat} (h : Arg w K key kn kcap) (hb : Below w.heap.size w w') : Arg w' K key kn kcap where
  len := h.len
  cap := h.cap
  max := h.max
  b256 := h.b256
  none := h.none
  byt := (h.byt.below hb (Nat.le_refl _)).more hb.size
theorem Own.arg {w : World} {B : Nat} {v : Value} {l : List Nat} (h : Own 5 .u8 w B v l) (hb : B256 l) : ∃ A cap, v = .slice A l.length cap ∧ Arg w A l l.length cap := by
  rcases h.form with ⟨rfl, rfl⟩ | ⟨g, cap, rfl, _, _, h1, h2, h3⟩
  · exact ⟨.none, 0, rfl, rfl, Nat.le_refl _, Nat.zero_le _, hb, fun _ => ⟨rfl, rfl⟩, Byt.none rfl⟩
  · exact ⟨_, cap, rfl, rfl, h1, h2, hb, (fun e => by cases e), h3.byt⟩
theorem Arg.str {w : World} {K : Option Addr} {key : List Nat} {kn kcap : Nat} (h : Arg w K key kn kcap) : (convert 91 9 (.slice K kn kcap)).run Tryd.prog w = .ok (.string (str key)) w := run_bytes_str h.len h.b256 h.none h.byt
end Go.Proofs.YtdmnhpgafbcehaaDoor
set_option maxRecDepth 100000
namespace Go.Proofs.YtdmnhpgafbcehaaDoor
namespace BytM
/-- A number in w bytes, the greatest first. -/
def dig : Nat → Nat → List Nat
  | 0, _ => []
  | w + 1, n => (n / 256 ^ w % 256) :: dig w n
def val (l : List Nat) : Nat := l.foldl (fun n b => 256 * n + b) 0
theorem dig_length : ∀ w n, (dig w n).length = w
  | 0, _ => rfl
  | w + 1, n => by rw [dig, List.length_cons, dig_length w n]
theorem dig_256 : ∀ w n, B256 (dig w n)
  | 0, _ => fun x hx => by cases hx
  | w + 1, n => fun x hx => by
    rw [dig] at hx
    rcases List.mem_cons.1 hx with rfl | hx
    · exact Nat.mod_lt _ (by omega)
    · exact dig_256 w n x hx
theorem dig_get : ∀ (w n k : Nat), k < w → (dig w n).getD k 0 = n / 256 ^ (w - 1 - k) % 256
  | 0, _, _, h => absurd h (by omega)
  | w + 1, n, 0, _ => by rw [dig]; simp
  | w + 1, n, k + 1, h => by
    rw [dig, List.getD_cons_succ, dig_get w n k (by omega), show w + 1 - 1 - (k + 1) = w - 1 - k by omega]
theorem dig_step {w n k : Nat} (h : k < w) : (dig w n).take (k + 1) = (dig w n).take k ++ [n / 256 ^ (w - 1 - k) % 256] := by
  have hl : k < (dig w n).length := by rw [dig_length]; exact h
  rw [List.take_succ_eq_append_getElem hl, ← nums_at hl, dig_get w n k h]
def isW (w : Int) : Bool := decide (w = 1) || decide (w = 2) || decide (w = 4) || decide (w = 8)
/-- Is w a width, and does n fit in w bytes? -/
def okN (w : Int) (n : Nat) : Bool := isW w && decide (n < 256 ^ w.toNat)
/-- A text as bytes. -/
def txt (s : List Nat) : List Nat := dig 2 s.length ++ s
/-- The parts, one behind the other. -/
def flatP : List (List Nat) → List Nat
  | [] => []
  | p :: ps => dig 4 p.length ++ p ++ flatP ps
theorem flatP_append : ∀ (a b : List (List Nat)), flatP (a ++ b) = flatP a ++ flatP b
  | [], _ => rfl
  | p :: a, b => by rw [List.cons_append, flatP, flatP, flatP_append a b, List.append_assoc (dig 4 p.length ++ p)]
theorem flatP_256 : ∀ {ps : List (List Nat)}, (∀ p ∈ ps, B256 p) → B256 (flatP ps)
  | [], _ => fun x hx => by cases hx
  | p :: ps, h => ((dig_256 _ _).append (h p List.mem_cons_self)).append (flatP_256 fun q hq => h q (List.mem_cons_of_mem _ hq))
/-- A row. -/
def rowB (d : Nat) (ps : List (List Nat)) : List Nat := d :: ps.length :: flatP ps
/-! Tapes: what is left, or none where it is torn. -/
abbrev Tp := Option (List Nat)
def cutL (st : Tp) (n : Int) : List Nat := match st with
  | none => []
  | some l => if 0 ≤ n ∧ n ≤ (l.length : Int) then l.take n.toNat else []
def cutS (st : Tp) (n : Int) : Tp := match st with
  | none => none
  | some l => if 0 ≤ n ∧ n ≤ (l.length : Int) then some (l.drop n.toNat) else none
def numL (st : Tp) (w : Int) : Nat := if isW w then val (cutL st w) else 0
def numS (st : Tp) (w : Int) : Tp := if isW w then cutS st w else none
def txtL (st : Tp) (most : Int) : List Nat := if (numL st 2 : Int) > most then [] else cutL (numS st 2) (numL st 2 : Nat)
def txtS (st : Tp) (most : Int) : Tp := if (numL st 2 : Int) > most then none else cutS (numS st 2) (numL st 2 : Nat)
def T256 (st : Tp) : Prop := ∀ l, st = some l → B256 l
theorem T256.some {l : List Nat} (h : B256 l) : T256 (some l) := fun m e => by cases e; exact h
theorem T256.none : T256 none := fun m e => by cases e
theorem T256.cut {st : Tp} (h : T256 st) (n : Int) : T256 (cutS st n) := by
  intro l e
  unfold cutS at e
  split at e
  · cases e
  · split at e
    · cases e; exact (h _ rfl).drop _
    · cases e
theorem T256.num {st : Tp} (h : T256 st) (w : Int) : T256 (numS st w) := by
  unfold numS
  split
  · exact h.cut w
  · exact T256.none
theorem T256.txt {st : Tp} (h : T256 st) (m : Int) : T256 (txtS st m) := by
  unfold txtS
  split
  · exact T256.none
  · exact (h.num 2).cut _
/-! Rows that are read. -/
def prsL : Nat → Tp → List (List Nat)
  | 0, _ => []
  | k + 1, st => cutL (numS st 4) (numL st 4 : Nat) :: prsL k (cutS (numS st 4) (numL st 4 : Nat))
def prsS : Nat → Tp → Tp
  | 0, st => st
  | k + 1, st => prsS k (cutS (numS st 4) (numL st 4 : Nat))
/-- What is read of bytes as a row: its domain and parts, or none. -/
def parse : List Nat → Option (Nat × List (List Nat))
  | d :: m :: l => if 16 < m then none else if prsS m (some l) = some [] then some (d, prsL m (some l)) else none
  | _ => none
/-- The same by a tape. -/
def pDom (l : List Nat) : Nat := numL (some l) 1
def pMany (l : List Nat) : Nat := numL (numS (some l) 1) 1
def pRest (l : List Nat) : Tp := numS (numS (some l) 1) 1
end BytM
end Go.Proofs.YtdmnhpgafbcehaaDoor
set_option maxRecDepth 100000
namespace Go.Proofs.YtdmnhpgafbcehaaDoor
open Go.ChangeShapes Go.WideShapes Go.ChangeAt Go.RowKit
def Drew (w w' : World) : Prop := ∃ k, w' = w.drewN k
theorem Drew.refl (w : World) : Drew w w.drew := ⟨1, rfl⟩
theorem Drew.cell {w w' : World} (h : Drew w w') {p : Addr} {v : Value} (hc : w.cell? p = some v) : w'.cell? p = some v := by
  obtain ⟨k, rfl⟩ := h; exact hc
theorem Drew.blk {w w' : World} (h : Drew w w') {g : Nat} {t : TypeId} {cs : Array Value} (hc : Blk w g t cs) : Blk w' g t cs := by
  obtain ⟨k, rfl⟩ := h; exact hc
theorem Drew.below {B : Nat} {a w w' : World} (h : Drew w w') (hb : Below B a w) : Below B a w' := by
  obtain ⟨k, rfl⟩ := h; exact below_drewN hb k
theorem Drew.heap {w w' : World} (h : Drew w w') : w'.heap = w.heap := by obtain ⟨k, rfl⟩ := h; rfl
/-- The worlds of a region in which one new row is made. -/
def Put (w : World) (o : Obj) (bb : Bool) (w' : World) : Prop := match bb with
  | false => Drew w w'
  | true => ∃ w7, Drew w w7 ∧ w' = w7.alloc o
theorem Put.cell {w w' : World} {o : Obj} {bb : Bool} (h : Put w o bb w') {p : Addr} {v : Value} (hp : p.block < w.heap.size) (hc : w.cell? p = some v) : w'.cell? p = some v := by
  cases bb with
  | false => exact Drew.cell h hc
  | true =>
    obtain ⟨w7, h7, rfl⟩ := h
    exact (((Below.refl w7.heap.size w7).alloc (Nat.le_refl _) _).cell (by rw [h7.heap]; exact hp)).trans (h7.cell hc)
theorem Drew.trans {w w' w'' : World} (h : Drew w w') (h2 : Drew w' w'') : Drew w w'' := by
  obtain ⟨a, ha⟩ := h
  obtain ⟨b, hb⟩ := h2
  exact ⟨a + b, by rw [hb, ha]; simp⟩
end Go.Proofs.YtdmnhpgafbcehaaDoor
set_option maxRecDepth 100000
namespace Go.Proofs.YtdmnhpgafbcehaaDoor
open Go.ChangeShapes Go.WideShapes Go.ChangeAt Go.RowKit
theorem cell_other {w : World} {p q : Addr} {v : Value} (h : q.block ≠ p.block) : (w.setCell p v).cell? q = w.cell? q := by
  unfold World.cell?
  rw [Below.heap_setCell w p v q.block h]
/-! ### Only block g has turned -/
theorem only_of_below {a b : World} {g B : Nat} (k : Below B a b) (hB : a.heap.size ≤ B) : a.grownBy b (some g) :=
  ⟨k.os, k.tape, k.output, k.size, fun i hi _ => k.block i (by omega)⟩
theorem only_cell {a b : World} {g : Nat} (h : a.grownBy b (some g)) (i : Nat) (v : Value) : a.grownBy (b.setCell ⟨g, i, none⟩ v) (some g) :=
  ⟨h.os, h.tape, h.output, by simpa using h.size, fun k hk hne => (Below.heap_setCell b ⟨g, i, none⟩ v k (fun e => hne (by rw [e]))).trans (h.block k hk hne)⟩
theorem only_drew {a b c : World} {g : Nat} (h : a.grownBy b (some g)) (k : Drew b c) : a.grownBy c (some g) := by
  obtain ⟨n, rfl⟩ := k; exact ⟨h.os, h.tape, h.output, h.size, h.block⟩
theorem only_Below {a b : World} {g B : Nat} (h : a.grownBy b (some g)) (hB : B ≤ g) (hs : B ≤ a.heap.size) : Below B a b :=
  ⟨h.os, h.tape, h.output, h.size, fun i hi => h.block i (by omega) (fun e => by injection e; omega)⟩
theorem Blk.only {a b : World} {g k : Nat} {t : TypeId} {cs : Array Value} (h : Blk a k t cs) (ho : a.grownBy b (some g)) (hne : k ≠ g) : Blk b k t cs := (ho.block k h.lt (fun e => hne (by injection e))).trans h
end Go.Proofs.YtdmnhpgafbcehaaDoor
set_option maxRecDepth 100000
namespace Go.Proofs.YtdmnhpgafbcehaaDoor
open Go.RowKit
section
variable {w : World} {g : Nat} {t : TypeId}
/-- The cells vs laid into a row from place o on. -/
theorem blk_setCells {N : Nat} : ∀ (vs : List Value) (o : Nat) (w : World) (F : Nat → Value), Blk w g t (row N F) → o + vs.length ≤ N →
    Blk (w.setCells g o vs) g t (row N fun j => if o ≤ j ∧ j < o + vs.length then vs.getD (j - o) undef else F j) ∧ Below g w (w.setCells g o vs)
  | [], o, w, F, h, _ => by
    rw [World.setCells]
    refine ⟨?_, Below.refl _ _⟩
    rw [row_ext (g := F) fun j _ => if_neg (by rw [List.length_nil]; omega)]
    exact h
  | v :: r, o, w, F, h, hN => by
    rw [List.length_cons] at hN
    have h1 := h.setCell_same o v
    rw [row_set] at h1
    obtain ⟨h2, h3⟩ := blk_setCells r (o + 1) _ _ h1 (by omega)
    rw [World.setCells]
    refine ⟨?_, ((Below.refl g w).setCell (p := ⟨g, o, none⟩) (Nat.le_refl _) v).trans h3⟩
    rw [row_ext (g := fun j => if o ≤ j ∧ j < o + (v :: r).length then (v :: r).getD (j - o) undef else F j) fun j _ => ?_] at h2
    · exact h2
    · rw [List.length_cons]
      by_cases e : j = o
      · subst e
        rw [if_neg (by omega), if_pos rfl, if_pos (by omega), Nat.sub_self]; rfl
      · by_cases e2 : o + 1 ≤ j ∧ j < o + 1 + r.length
        · rw [if_pos e2, if_pos (by omega), show j - o = (j - (o + 1)) + 1 by omega, List.getD_cons_succ]
        · rw [if_neg e2, if_neg e, if_neg (by omega)]
end
end Go.Proofs.YtdmnhpgafbcehaaDoor
set_option maxRecDepth 100000
namespace Go.Proofs.YtdmnhpgafbcehaaDoor
open Go.RowKit
/-- Are the first n alike? -/
def eqN (n : Nat) (f g : Nat → Int) : Bool := (List.range n).all fun k => f k == g k
section
variable {P : Program}
theorem eq_rounds {d e : TypeId} {k' : IntKind} {k : IntKind} {n : Nat} {f g : Nat → Int} (he : P.underlying e = some (.int k')) (w : World) : ∀ (m i : Nat), i + m = n →
    (forIn (m := Sem) (List.range' i m) ((none, ()) : Option Bool × Unit) (fun i _ => do
      let a ← part e (row n fun k' => .int k (f k')) (i * 1)
      let b ← part e (row n fun k' => .int k (g k')) (i * 1)
      let r ← Op.equalIn (d + 1) e a b
      if !r then pure (ForInStep.done (some false, ())) else pure (ForInStep.yield (none, ())))).run P w =
    .ok (if (List.range' i m).all (fun k => f k == g k) then (none, ()) else (some false, ())) w
  | 0, i, _ => by simp
  | m + 1, i, h => by
    have hp : ∀ (h : Nat → Int), (part e (row n fun k' => .int k (h k')) (i * 1)).run P w = .ok (.int k (h i)) w := fun h' => by
      have : (isAgg e).run P w = .ok false w := by unfold isAgg; rw [Sem.run_bind, run_underlying he w]; rfl
      simp [part, Sem.run_bind, this, get_row_lt (show i < n by omega)]
    rw [List.range'_succ, List.forIn_cons]
    simp only [Sem.run_bind, hp, Result.andThen_ok, run_equalIn_int w d e k k' _ _ he, List.all_cons]
    by_cases hfg : f i == g i
    · simp only [hfg, Bool.not_true, Bool.false_eq_true, if_false, Sem.run_pure, Result.andThen_ok, Bool.true_and]
      exact eq_rounds he w m (i + 1) (by omega)
    · simp [hfg, Sem.run_pure, Result.andThen_ok]
theorem run_equalIn_row {d t e : TypeId} {k' : IntKind} {k : IntKind} {n : Nat} {f g : Nat → Int} (ht : P.underlying t = some (.array n e)) (he : P.underlying e = some (.int k')) (hi : (P.info? e).map (·.size) = some 1) (w : World) :
    (Op.equalIn (d + 2) t (.agg (row n fun j => .int k (f j))) (.agg (row n fun j => .int k (g j)))).run P w = .ok (eqN n f g) w := by
  have hs : (sizeOf e).run P w = .ok 1 w := by
    cases hq : P.info? e with
    | none => simp [hq] at hi
    | some i => simp [hq] at hi; simp [sizeOf, typeInfo, hq, hi]
  have key := eq_rounds (P := P) (d := d) (k := k) (f := f) (g := g) (n := n) he w n 0 (by omega)
  unfold Op.equalIn
  simp only [Sem.run_bind, run_underlying ht, Result.andThen_ok, hs]
  rw [Std.Legacy.Range.forIn_eq_forIn_range']
  have hr : List.range' (Std.Legacy.Range.mk 0 n 1 (by decide)).start (Std.Legacy.Range.mk 0 n 1 (by decide)).size (Std.Legacy.Range.mk 0 n 1 (by decide)).step = List.range' 0 n := by
    simp [Std.Legacy.Range.size]
  rw [hr, key]
  simp only [Result.andThen_ok]
  unfold eqN
  rw [List.range_eq_range']
  by_cases h : ((List.range' 0 n).all fun k => f k == g k) = true
  · simp [h]
  · simp [h]
end
/-- Are two sectors alike? -/
def eqS (f g : Nat → Nat) : Bool := eqN 64 (fun k => f k) fun k => g k
end Go.Proofs.YtdmnhpgafbcehaaDoor
set_option maxRecDepth 100000
namespace Go.Proofs.YtdmnhpgafbcehaaDoor

/-- One operation, carried out in the world w, yields v; R holds of the world behind it. -/
def Gives (P : Program) (o : Oper) (a : Act) (w : World) (v : Value) (R : World → Prop) : Prop :=
  match (execOp a.eval o).run P w with
  | .ok (.value u) w' => u = v ∧ R w'
  | .ok .skip w' => v = undef ∧ R w'
  | .ok (.enter f args) w' => Calls P f args w' fun e w'' => e = .returned v ∧ R w''
  | _ => False

theorem wp_of_gives {P : Program} {o : Oper} {a : Act} {w : World} {v : Value} {R : World → Prop} {K : Act → World → Prop} {Q : Exit → Act → World → Prop}
    (h : Gives P o a w v R) (hK : ∀ w', R w' → K (a.put o.dst v) w') : o.wp P a w K Q := by
  unfold Gives at h
  unfold Oper.wp
  generalize (execOp a.eval o).run P w = r at *
  cases r with
  | ok n w' =>
    cases n <;> simp only at h <;> simp only [Oper.upon]
    case value u => obtain ⟨rfl, h⟩ := h; exact hK _ h
    case skip => obtain ⟨rfl, h⟩ := h; exact hK _ h
    case enter f args => exact h.mono fun e w'' ⟨he, hr⟩ => by subst he; exact hK _ hr
  | halt x w' => cases h

section
variable (ops : Array Oper)
/-- What a look at the texts of the operations shows. -/
def tidyPair (k j : Nat) (o p : Oper) : Bool :=
  j == k || ((match p.dst with | some _ => p.dst != o.dst | none => true) &&
    (match p.dst with | some d => !(o.looksAt ops).contains d || Region.waitsFor .any ops k j || (decide (k < j) && Region.waitsFor .any ops j k) | none => true))
def tidyAt (k : Nat) (o : Oper) : Bool :=
  (o.after.all fun e => !Region.binds .any e || decide (e.on < k)) && (List.range ops.size).all fun j => match ops[j]? with | some p => tidyPair ops k j o p | none => true
def tidy : Bool := Region.noSelect ops && (List.range ops.size).all fun k => match ops[k]? with | some o => tidyAt ops k o | none => true

def dstAt (j : Nat) : Option Tmp := (ops[j]?).bind (·.dst)
/-- The frame behind those of the first n operations that have come up. -/
def fr (vals : Nat → Value) (l : Nat → Bool) : Nat → Act → Act
  | 0, a => a
  | k + 1, a => if l k then (fr vals l k a).put (dstAt ops k) (vals k) else fr vals l k a
/-- Whatever has come up, all that it waits for has come up. -/
def Closed (L : Array Bool) : Prop := ∀ j o, ops[j]? = some o → L.getD j false = true → ∀ e ∈ o.after, Region.binds .any e = true → L.getD e.on false = true
end

section
variable {P : Program} {ops : Array Oper}
theorem tidy_at (h : tidy ops = true) {k : Nat} {o : Oper} (ho : ops[k]? = some o) : tidyAt ops k o = true := by
  simp only [tidy, Bool.and_eq_true] at h
  have hk : k < ops.size := (Array.getElem?_eq_some_iff.1 ho).1
  have := List.all_eq_true.1 h.2 k (List.mem_range.2 hk)
  simpa [ho] using this
theorem tidy_edge (h : tidy ops = true) {k : Nat} {o : Oper} (ho : ops[k]? = some o) : ∀ e ∈ o.after, Region.binds .any e = true → e.on < k := by
  intro e he hb
  have := tidy_at h ho
  simp only [tidyAt, Bool.and_eq_true] at this
  have h1 := (Array.all_eq_true_iff_forall_mem.1 this.1) e he
  simpa [hb] using h1
theorem tidy_pair (h : tidy ops = true) {k j : Nat} {o p : Oper} (ho : ops[k]? = some o) (hp : ops[j]? = some p) : tidyPair ops k j o p = true := by
  have := tidy_at h ho
  simp only [tidyAt, Bool.and_eq_true] at this
  have hj : j < ops.size := (Array.getElem?_eq_some_iff.1 hp).1
  have h1 := List.all_eq_true.1 this.2 j (List.mem_range.2 hj)
  simpa [hp] using h1
theorem dst_ne (h : tidy ops = true) {k j : Nat} (hne : j ≠ k) : ∀ d, dstAt ops j = some d → dstAt ops k ≠ some d := by
  intro d hj hk
  unfold dstAt at hj hk
  cases hoj : ops[j]? with
  | none => simp [hoj] at hj
  | some p =>
    cases hok : ops[k]? with
    | none => simp [hok] at hk
    | some o =>
      simp only [hoj, hok, Option.bind_some] at hj hk
      have := tidy_pair h hok hoj
      simp [tidyPair, hne, hj, hk] at this

theorem fr_congr {vals : Nat → Value} {l l' : Nat → Bool} : ∀ {n : Nat} {a : Act}, (∀ j, j < n → l j = l' j) → fr ops vals l n a = fr ops vals l' n a
  | 0, _, _ => rfl
  | n + 1, a, h => by
    simp only [fr, h n (by omega), fr_congr (n := n) (a := a) fun j hj => h j (by omega)]
theorem fr_vals {vals vals' : Nat → Value} {l : Nat → Bool} : ∀ {n : Nat} {a : Act}, (∀ j, j < n → l j = true → vals j = vals' j) → fr ops vals l n a = fr ops vals' l n a
  | 0, _, _ => rfl
  | n + 1, a, h => by
    simp only [fr, fr_vals (n := n) (a := a) fun j hj => h j (by omega)]
    by_cases e : l n = true
    · rw [if_pos e, if_pos e, h n (by omega) e]
    · rw [if_neg e, if_neg e]
theorem fr_set (h : tidy ops = true) {vals : Nat → Value} {l : Nat → Bool} {i : Nat} (hl : l i = false) :
    ∀ {n : Nat} {a : Act}, i < n → fr ops vals (fun j => l j || j == i) n a = (fr ops vals l n a).put (dstAt ops i) (vals i)
  | 0, _, hi => by omega
  | n + 1, a, hi => by
    by_cases e : i = n
    · subst e
      simp only [fr, beq_self_eq_true, Bool.or_true, if_true, hl, Bool.false_eq_true, if_false]
      congr 1
      exact fr_congr fun j hj => by
        have : (j == i) = false := by simp; omega
        simp [this]
    · have ih := fr_set h (vals := vals) hl (n := n) (a := a) (by omega)
      have : (n == i) = false := by simp; omega
      simp only [fr, this, Bool.or_false, ih]
      cases l n with
      | true => simp only [if_true]; exact Act.put_comm _ _ _ (dst_ne h e)
      | false => simp
theorem size_put (a : Act) (d : Option Tmp) (v : Value) : (a.put d v).tmps.size = a.tmps.size := by cases d <;> simp [Act.put]
theorem size_fr {vals : Nat → Value} {l : Nat → Bool} : ∀ {n : Nat} {a : Act}, (fr ops vals l n a).tmps.size = a.tmps.size
  | 0, _ => rfl
  | n + 1, a => by
    simp only [fr]
    split
    · rw [size_put, size_fr]
    · exact size_fr
theorem fr_get {vals : Nat → Value} {l l' : Nat → Bool} {t : Tmp} : ∀ {n : Nat} {a : Act}, (∀ j, j < n → dstAt ops j = some t → l j = l' j) →
    (fr ops vals l n a).tmps[t]? = (fr ops vals l' n a).tmps[t]?
  | 0, _, _ => rfl
  | n + 1, a, h => by
    have ih := fr_get (vals := vals) (n := n) (a := a) fun j hj => h j (by omega)
    have hput : ∀ (b : Act) (v : Value), dstAt ops n ≠ some t → (b.put (dstAt ops n) v).tmps[t]? = b.tmps[t]? := fun b v hne => by
      cases hd : dstAt ops n with
      | none => rfl
      | some d =>
        have hdt : d ≠ t := fun e => hne (by rw [hd, e])
        simp [Act.put, Array.getElem?_setIfInBounds_ne hdt]
    by_cases hd : dstAt ops n = some t
    · have e := h n (by omega) hd
      simp only [fr, e]
      split
      · simp only [Act.put, hd, Array.getElem?_setIfInBounds_self, size_fr]
      · exact ih
    · simp only [fr]
      split <;> split
      · rw [hput _ _ hd, hput _ _ hd]; exact ih
      · rw [hput _ _ hd]; exact ih
      · rw [hput _ _ hd]; exact ih
      · exact ih

theorem exec_same (h : tidy ops = true) {vals : Nat → Value} {L : Array Bool} {k n : Nat} {o : Oper} {a : Act} (ho : ops[k]? = some o) (hcl : Closed ops L) (hr : k ∈ Region.ready .any ops L) :
    execOp (fr ops vals (fun j => L.getD j false) n a).eval o = execOp (fr ops vals (fun j => decide (j < k)) n a).eval o ∧
    Region.wanted o (yielded ops (fr ops vals (fun j => L.getD j false) n a).tmps) = Region.wanted o (yielded ops (fr ops vals (fun j => decide (j < k)) n a).tmps) := by
  obtain ⟨hun, o', ho', hall⟩ := mem_ready.1 hr
  obtain rfl : o = o' := Option.some.inj (ho.symm.trans ho')
  have hunf := getD_both hun
  have key : ∀ t, t ∈ o.looksAt ops → (fr ops vals (fun j => L.getD j false) n a).tmps[t]? = (fr ops vals (fun j => decide (j < k)) n a).tmps[t]? := fun t ht => fr_get fun j _ hd => by
    unfold dstAt at hd
    cases hp : ops[j]? with
    | none => simp [hp] at hd
    | some p =>
      simp only [hp, Option.bind_some] at hd
      have hpair := tidy_pair h ho hp
      by_cases e : j = k
      · subst e; rw [hunf]; simp
      · have hc : (o.looksAt ops).contains t = true := by simpa using ht
        simp only [tidyPair, hd, hc] at hpair
        simp [e] at hpair
        rcases hpair.2 with hw | ⟨hlt, hw⟩
        · obtain ⟨o2, ho2, e2, he2, hb2, hon⟩ := Region.waitsFor_spec hw
          obtain rfl : o = o2 := Option.some.inj (ho.symm.trans ho2)
          have h1 := hall e2 he2 hb2
          have h2 := tidy_edge h ho e2 he2 hb2
          rw [hon] at h1 h2
          rw [h1]; simp [h2]
        · obtain ⟨p2, hp2, e2, he2, hb2, hon⟩ := Region.waitsFor_spec hw
          obtain rfl : p = p2 := Option.some.inj (hp.symm.trans hp2)
          cases hl : L.getD j false with
          | true =>
            have := hcl j p hp hl e2 he2 hb2
            rw [hon, hunf] at this
            cases this
          | false => simp; omega
  constructor
  · refine execOp_congr o (fun cs b => Region.noSelect_spec (by simp only [tidy, Bool.and_eq_true] at h; exact h.1) k o cs b ho) fun x hx => ?_
    cases x with
    | tmp t =>
      have ht : t ∈ o.looksAt ops := List.mem_append_left _ (List.mem_filterMap.2 ⟨.tmp t, by simpa using hx, rfl⟩)
      show Array.getD _ t undef = Array.getD _ t undef
      rw [Array.getD_eq_getD_getElem?, Array.getD_eq_getD_getElem?, key t ht]
    | _ => rfl
  · unfold Region.wanted
    cases hg : o.guard with
    | none => rfl
    | some gw =>
      obtain ⟨g, want⟩ := gw
      simp only
      congr 1
      unfold yielded
      cases hd : (ops[g]?).bind (·.dst) with
      | none => rfl
      | some d =>
        have ht : d ∈ o.looksAt ops := List.mem_append_right _ (by simp [hg, hd])
        simp only [Option.bind_some, key d ht]

theorem countP_one {l : List Nat} {i : Nat} {p q : Nat → Bool} (hp : p i = true) (hq : q i = false) (h : ∀ j, j ≠ i → q j = p j) : l.Nodup → i ∈ l → l.countP q + 1 = l.countP p := by
  induction l with
  | nil => intro _ hi; cases hi
  | cons x l ih =>
    intro hn hi
    rw [List.nodup_cons] at hn
    by_cases e : x = i
    · subst e
      rw [List.countP_cons, List.countP_cons, hp, hq]
      have : l.countP q = l.countP p := by
        apply List.countP_congr
        intro j hj
        rw [h j fun e => hn.1 (e ▸ hj)]
      simp [this]
    · rw [List.countP_cons, List.countP_cons, h x e]
      have hi' : i ∈ l := by
        cases hi with
        | head => exact absurd rfl e
        | tail _ h => exact h
      have := ih hn.2 hi'
      omega
theorem getD_up {L : Array Bool} {i : Nat} (hi : i < L.size) (h : L.getD i true = true) : L.getD i false = true := by
  simp [hi] at h ⊢; exact h
def cnt (n : Nat) (L : Array Bool) : Nat := (List.range n).countP fun i => !L.getD i true

theorem closed_set {L : Array Bool} (h : Closed ops L) {i : Nat} (hr : i ∈ Region.ready .any ops L) : Closed ops (L.setIfInBounds i true) := by
  obtain ⟨_, oi, hoi, hall⟩ := mem_ready.1 hr
  intro j o ho hl e he hb
  by_cases hij : i = j
  · subst hij
    obtain rfl : o = oi := Option.some.inj (ho.symm.trans hoi)
    exact getD_set_true (hall e he hb)
  · rw [getD_set_ne false hij] at hl
    exact getD_set_true (h j o ho hl e he hb)

/-- The head of a region: the first n operations, in whatever order; behind them the tail. -/
theorem head_any {Γ : Type} {n g : Nat} {Q : Exit → Act → World → Prop} {vals : Γ → Nat → Value} {C : Γ → Array Bool → World → Prop} {a0 : Act} (ht : tidy ops = true) (hn : n ≤ ops.size)
    (hstep : ∀ k o, k < n → ops[k]? = some o → ∀ γ L w, L.size = ops.size → Closed ops L → k ∈ Region.ready .any ops L → C γ L w →
      ∃ γ', (∀ j, L.getD j false = true → vals γ j = vals γ' j) ∧
      ((Region.wanted o (yielded ops (fr ops (vals γ) (fun j => decide (j < k)) ops.size a0).tmps) = true ∧ Gives P o (fr ops (vals γ) (fun j => decide (j < k)) ops.size a0) w (vals γ' k) (C γ' (L.setIfInBounds k true))) ∨
      (Region.wanted o (yielded ops (fr ops (vals γ) (fun j => decide (j < k)) ops.size a0).tmps) = false ∧ vals γ' k = undef ∧ C γ' (L.setIfInBounds k true) w)))
    (hsink : ∀ L, L.size = ops.size → Closed ops L → (∀ t, n ≤ t → t < ops.size → L.getD t true = false) → ∀ i, i < n → L.getD i true = false → ∀ t ∈ Region.ready .any ops L, t < n)
    (htail : ∀ γ L w, L.size = ops.size → (∀ i, i < n → L.getD i false = true) → (∀ t, n ≤ t → t < ops.size → L.getD t true = false) → C γ L w →
      wpAny P .any ops Q g L (fr ops (vals γ) (fun j => decide (j < n)) ops.size a0) w) :
    ∀ (f : Nat) (γ : Γ) (L : Array Bool) (w : World), L.size = ops.size → Closed ops L → (∀ t, n ≤ t → t < ops.size → L.getD t true = false) → cnt n L = f → C γ L w →
      wpAny P .any ops Q (f + g) L (fr ops (vals γ) (fun j => L.getD j false) ops.size a0) w
  | 0, γ, L, w, hs, hcl, htl, hc, hC => by
    have hall : ∀ i, i < n → L.getD i false = true := fun i hi => by
      have h1 : ∀ j ∈ List.range n, ¬ (!L.getD j true) = true := List.countP_eq_zero.1 hc
      have h2 := h1 i (List.mem_range.2 hi)
      exact getD_up (by omega) (by simpa using h2)
    rw [Nat.zero_add, fr_congr (l' := fun j => decide (j < n)) fun j hj => ?_]
    · exact htail γ L w hs hall htl hC
    · by_cases hjn : j < n
      · rw [hall j hjn]; simp [hjn]
      · rw [getD_both (htl j (by omega) hj)]; simp [hjn]
  | f + 1, γ, L, w, hs, hcl, htl, hc, hC => by
    rw [show f + 1 + g = (f + g) + 1 by omega]
    -- the least that has not come up may come up
    have hex : ∃ i, i < n ∧ L.getD i true = false := by
      have hpos : 0 < (List.range n).countP fun i => !L.getD i true := by unfold cnt at hc; omega
      obtain ⟨i, hi, h1⟩ := List.countP_pos_iff.1 hpos
      exact ⟨i, List.mem_range.1 hi, by simpa using h1⟩
    have hready : ∃ i, i ∈ Region.ready .any ops L := by
      obtain ⟨i, hi, hun⟩ := hex
      induction i using Nat.strongRecOn with
      | _ i ih =>
        by_cases hless : ∃ j, j < i ∧ L.getD j true = false
        · obtain ⟨j, hj, hjun⟩ := hless
          exact ih j hj (by omega) hjun
        · have hio : i < ops.size := by omega
          refine ⟨i, mem_ready.2 ⟨hun, ops[i], Array.getElem?_eq_getElem hio, fun e he hb => ?_⟩⟩
          have hlt := tidy_edge ht (Array.getElem?_eq_getElem hio) e he hb
          refine getD_up (by omega) ?_
          cases h0 : L.getD e.on true with
          | true => rfl
          | false => exact absurd ⟨e.on, hlt, h0⟩ hless
    obtain ⟨i0, hi0, hun0⟩ := hex
    refine ⟨fun h0 => (by obtain ⟨i, hi⟩ := hready; rw [h0] at hi; cases hi), fun i hi => ?_⟩
    have hin : i < n := hsink L hs hcl htl i0 hi0 hun0 i hi
    obtain ⟨hun, o, ho, _⟩ := mem_ready.1 hi
    have hio : i < ops.size := by omega
    obtain ⟨hex1, hex2⟩ := exec_same (vals := vals γ) (n := ops.size) (a := a0) ht ho hcl hi
    obtain ⟨γ', hag, hst⟩ := hstep i o hin ho γ L w hs hcl hi hC
    have hnext : ∀ w', C γ' (L.setIfInBounds i true) w' → wpAny P .any ops Q (f + g) (L.setIfInBounds i true) ((fr ops (vals γ) (fun j => L.getD j false) ops.size a0).put o.dst (vals γ' i)) w' := fun w' hC' => by
      have ih := head_any (g := g) (Q := Q) ht hn hstep hsink htail f γ' (L.setIfInBounds i true) w' (by simpa using hs) (closed_set hcl hi) (fun t h1 h2 => by rw [getD_set_ne true (by omega)]; exact htl t h1 h2)
        (by
          have h1 : cnt n (L.setIfInBounds i true) + 1 = cnt n L := by
            refine countP_one (i := i) (by simpa using hun) ?_ (fun j hj => by rw [getD_set_ne true (Ne.symm hj)]) List.nodup_range (List.mem_range.2 hin)
            simp [show i < L.size by omega]
          omega) hC'
      rw [fr_congr (l' := fun j => L.getD j false || j == i) fun j _ => ?_, fr_set ht (getD_both hun) hio, ← fr_vals fun j _ hj => hag j hj] at ih
      · unfold dstAt at ih; rw [ho] at ih; exact ih
      · by_cases e : j = i
        · subst e; simp [show j < L.size by omega]
        · have : (j == i) = false := by simpa using e
          rw [getD_set_ne false (Ne.symm e), this, Bool.or_false]
    unfold wpOp
    simp only [ho]
    rcases hst with ⟨hw, hg⟩ | ⟨hw, hv, hC'⟩
    · rw [hex2, if_pos hw]
      refine .inl (wp_of_gives (v := vals γ' i) (R := C γ' (L.setIfInBounds i true)) ?_ hnext)
      unfold Gives at hg ⊢
      rw [hex1]; exact hg
    · rw [hex2, hw, if_neg (by simp)]
      rw [← hv]
      exact hnext w hC'

/-! ### One class of worlds; the lexical walk -/
/-- The operations in the order of the text; C: the class of worlds that each is handed, and hands on. -/
def wpK (P : Program) (ops : Array Oper) (C : World → Prop) (Q : Act → Prop) : List Oper → Act → Prop
  | [], a => Q a
  | o :: rest, a => ∃ v, ((Region.wanted o (yielded ops a.tmps) = true ∧ ∀ w, C w → Gives P o a w v C) ∨ (Region.wanted o (yielded ops a.tmps) = false ∧ v = undef)) ∧ wpK P ops C Q rest (a.put o.dst v)
section
variable {C : World → Prop} {Qk : Act → Prop} {o : Oper} {rest : List Oper} {a : Act} {v : Value}
theorem wpK_nil (h : Qk a) : wpK P ops C Qk [] a := h
theorem wpK_val (hw : Region.wanted o (yielded ops a.tmps) = true) (h1 : ∀ w, C w → Gives P o a w v C) (h2 : wpK P ops C Qk rest (a.put o.dst v)) : wpK P ops C Qk (o :: rest) a := ⟨v, .inl ⟨hw, h1⟩, h2⟩
theorem gives_value {w w' : World} {R : World → Prop} (h : (execOp a.eval o).run P w = .ok (.value v) w') (hR : R w') : Gives P o a w v R := by unfold Gives; rw [h]; exact ⟨rfl, hR⟩
theorem gives_skip {w w' : World} {R : World → Prop} (h : (execOp a.eval o).run P w = .ok .skip w') (hR : R w') : Gives P o a w undef R := by unfold Gives; rw [h]; exact ⟨rfl, hR⟩
end

/-- The frames of the lexical walk. -/
def lexF (l : List Oper) (vals : Nat → Value) : Nat → Act → Act
  | 0, a => a
  | i + 1, a => (lexF l vals i a).put ((l[i]?).bind (·.dst)) (vals i)
theorem lexF_cons {o : Oper} {l : List Oper} {vals : Nat → Value} : ∀ {i : Nat} {a : Act}, lexF (o :: l) vals (i + 1) a = lexF l (fun j => vals (j + 1)) i (a.put o.dst (vals 0))
  | 0, a => by simp [lexF]
  | i + 1, a => by
    have := lexF_cons (o := o) (l := l) (vals := vals) (i := i) (a := a)
    rw [lexF, this]
    simp [lexF]
theorem wpK_vals {C : World → Prop} {Qk : Act → Prop} : ∀ (l : List Oper) (a : Act), wpK P ops C Qk l a → ∃ vals : Nat → Value, Qk (lexF l vals l.length a) ∧
    ∀ i o, l[i]? = some o → ((Region.wanted o (yielded ops (lexF l vals i a).tmps) = true ∧ ∀ w, C w → Gives P o (lexF l vals i a) w (vals i) C) ∨ (Region.wanted o (yielded ops (lexF l vals i a).tmps) = false ∧ vals i = undef))
  | [], a, h => ⟨fun _ => undef, h, fun i o hi => by simp at hi⟩
  | o :: l, a, h => by
    obtain ⟨v, h1, h2⟩ := h
    obtain ⟨vals, hq, hs⟩ := wpK_vals l _ h2
    refine ⟨fun j => match j with | 0 => v | j + 1 => vals j, ?_, fun i o' hi => ?_⟩
    · rw [List.length_cons, lexF_cons]; exact hq
    · cases i with
      | zero =>
        simp only [List.getElem?_cons_zero, Option.some.injEq] at hi
        subst hi
        exact h1
      | succ i =>
        rw [lexF_cons]
        exact hs i o' (by simpa using hi)
theorem fr_stop {vals : Nat → Value} {k : Nat} : ∀ (d : Nat) (a : Act), fr ops vals (fun j => decide (j < k)) (k + d) a = fr ops vals (fun j => decide (j < k)) k a
  | 0, _ => rfl
  | d + 1, a => by
    rw [← Nat.add_assoc, fr, if_neg (by simp), fr_stop d a]
theorem lexF_fr {n : Nat} {vals : Nat → Value} {a : Act} (hn : n ≤ ops.size) : ∀ i, i ≤ n → lexF (ops.toList.take n) vals i a = fr ops vals (fun j => decide (j < i)) ops.size a := by
  intro i hi
  obtain ⟨d, hd⟩ : ∃ d, ops.size = i + d := ⟨ops.size - i, by omega⟩
  rw [hd, fr_stop]
  clear hd d
  induction i with
  | zero => rfl
  | succ i ih =>
    rw [lexF, ih (by omega), fr, if_pos (by simp)]
    rw [fr_congr (l := fun j => decide (j < i + 1)) (l' := fun j => decide (j < i)) fun j hj => by simp [hj]; omega]
    congr 1
    unfold dstAt
    rw [List.getElem?_take_of_lt (by omega)]
    simp

def tailL (n m : Nat) : Array Bool := (List.replicate n true ++ List.replicate m false).toArray
/-- The tail stands in a fixed order behind the n first; or there is none. -/
def tailB (ops : Array Oper) (n : Nat) : Bool :=
  decide (n = ops.size) || (decide (n < ops.size) && Region.sinkB .any ops n && Region.chainB .any ops n && Region.seqB .any ops (ops.size - n) n (tailL n (ops.size - n)))

theorem region_core {id : Nat} {Q : Exit → Act → World → Prop} {Γ : Type} {C : Γ → Array Bool → World → Prop} {a : Act} {w : World} {l : List Oper} (n : Nat) (hm : P.follows .mixedOrders = true) (ht : tidy l.toArray = true) (hB : tailB l.toArray n = true)
    (γ0 : Γ) (hC : C γ0 (Array.replicate l.length false) w.drew) (vals : Γ → Nat → Value)
    (hs : ∀ i o, (l.take n)[i]? = some o → ∀ γ L w, L.size = l.length → i ∈ Region.ready .any l.toArray L → C γ L w →
      ∃ γ', (∀ j, L.getD j false = true → vals γ j = vals γ' j) ∧
      ((Region.wanted o (yielded l.toArray (lexF (l.take n) (vals γ) i a).tmps) = true ∧ Gives P o (lexF (l.take n) (vals γ) i a) w (vals γ' i) (C γ' (L.setIfInBounds i true))) ∨
      (Region.wanted o (yielded l.toArray (lexF (l.take n) (vals γ) i a).tmps) = false ∧ vals γ' i = undef ∧ C γ' (L.setIfInBounds i true) w)))
    (hq : ∀ γ L w', (∀ i, i < n → L.getD i false = true) → C γ L w' → wpList P l.toArray Q (l.drop n) (lexF (l.take n) (vals γ) (l.take n).length a) w') : (Code.region id l.toArray true).wp P Q a w := by
  refine wp_region_any hm ?_
  have hn : n ≤ l.toArray.size := by
    simp only [tailB, Bool.or_eq_true, Bool.and_eq_true, decide_eq_true_eq] at hB
    rcases hB with h | h <;> omega
  have hlen : (l.take n).length = n := by rw [List.length_take]; simp at hn; omega
  simp only [hlen] at hq
  have hfr : ∀ (γ : Γ) i, i ≤ n → lexF (l.take n) (vals γ) i a = fr l.toArray (vals γ) (fun j => decide (j < i)) l.toArray.size a := fun γ i hi => by
    have := lexF_fr (ops := l.toArray) (vals := vals γ) (a := a) hn i hi
    simpa using this
  have H := head_any (P := P) (ops := l.toArray) (n := n) (g := l.toArray.size - n) (Q := Q) (vals := vals) (C := C) (a0 := a) ht hn
    (fun k o hk ho γ L w' hsz _ hr hC' => by
      have hko : (l.take n)[k]? = some o := by rw [List.getElem?_take_of_lt hk]; simpa using ho
      have := hs k o hko γ L w' (by simpa using hsz) hr hC'
      rwa [hfr γ k (by omega)] at this)
    (fun L hL hcl htl i hi hun t hr => by
      obtain ⟨hunt, o, ho, _⟩ := mem_ready.1 hr
      have hto : t < l.toArray.size := (Array.getElem?_eq_some_iff.1 ho).1
      simp only [tailB, Bool.or_eq_true, Bool.and_eq_true, decide_eq_true_eq] at hB
      rcases hB with hB | ⟨⟨⟨hB1, hB2⟩, hB3⟩, _⟩
      · omega
      · rcases Nat.lt_or_ge t n with h | h
        · exact h
        · exact absurd hr (tail_waits hB2 hB3 hB1 ⟨hL, hcl, htl⟩ _ i rfl hi hun t h))
    (fun γ L w' hL hall htl hC' => by
      rw [← hfr γ n (Nat.le_refl n)]
      have hlist := hq γ L w' hall hC'
      have hLe : L = tailL n (l.toArray.size - n) := by
        apply Array.ext_getElem?
        intro j
        unfold tailL
        rw [show ((List.replicate n true ++ List.replicate (l.toArray.size - n) false).toArray)[j]? = (List.replicate n true ++ List.replicate (l.toArray.size - n) false)[j]? from List.getElem?_toArray .., List.getElem?_append]
        simp only [List.length_replicate]
        by_cases hj : j < n
        · have := hall j hj
          rw [if_pos hj]
          simp [show j < L.size by omega] at this
          simp [hj, show j < L.size by omega, this]
        · rw [if_neg hj]
          by_cases hj2 : j < l.toArray.size
          · have := htl j (by omega) hj2
            simp [show j < L.size by omega] at this
            rw [Array.getElem?_eq_getElem (by omega), this, List.getElem?_replicate, if_pos (by omega)]
          · rw [Array.getElem?_eq_none (by omega), List.getElem?_replicate, if_neg (by omega)]
      simp only [tailB, Bool.or_eq_true, Bool.and_eq_true, decide_eq_true_eq] at hB
      rcases hB with hB | ⟨⟨⟨hB1, hB2⟩, hB3⟩, hB4⟩
      · rw [show l.toArray.size - n = 0 by omega]
        have hd : l.drop n = [] := List.drop_eq_nil_of_le (by simp at hB; omega)
        rw [hd] at hlist
        refine ⟨?_, hlist⟩
        apply List.eq_nil_iff_forall_not_mem.2
        intro t hr
        obtain ⟨hunt, o, ho, _⟩ := mem_ready.1 hr
        have hto : t < l.toArray.size := (Array.getElem?_eq_some_iff.1 ho).1
        have := hall t (by omega)
        rw [getD_both hunt] at this
        cases this
      · have hdl : (l.drop n).length = l.toArray.size - n := by simp
        have := wpAny_of_seq (P := P) (ops := l.toArray) (md := .any) (Q' := Q) (l.drop n) n L _ w' (fun j => by simp [List.getElem?_drop]) (by rw [hdl, hLe]; exact hB4) hlist
        rwa [hdl] at this)
    (cnt n (Array.replicate l.toArray.size false)) γ0 (Array.replicate l.toArray.size false) w.drew (by simp) (fun j o _ hl => by rw [getD_replicate_false] at hl; cases hl)
    (fun t _ hts => getD_in (by simpa using hts) (getD_replicate_false _ _)) rfl (by simpa using hC)
  have hc : cnt n (Array.replicate l.toArray.size false) = n := by
    unfold cnt
    have : ∀ i ∈ List.range n, (!(Array.replicate l.toArray.size false).getD i true) = true := fun i hi => by
      have hi' := List.mem_range.1 hi
      have : i < l.length := by simp at hn; omega
      simp [this]
    rw [List.countP_eq_length.2 this, List.length_range]
  rw [hc, show n + (l.toArray.size - n) = l.toArray.size by omega] at H
  have hz : fr l.toArray (vals γ0) (fun j => (Array.replicate l.toArray.size false).getD j false) l.toArray.size a = a := by
    rw [fr_congr (l' := fun j => decide (j < 0)) fun j _ => by rw [getD_replicate_false]; simp]
    have := fr_stop (ops := l.toArray) (vals := vals γ0) (k := 0) l.toArray.size a
    rw [Nat.zero_add] at this
    exact this
  rw [hz] at H
  exact H
theorem wp_region_tail {id : Nat} {Q : Exit → Act → World → Prop} {C : World → Prop} {a : Act} {w : World} {l : List Oper} (n : Nat) (hm : P.follows .mixedOrders = true) (ht : tidy l.toArray = true) (hB : tailB l.toArray n = true)
    (hC : C w.drew) (h : wpK P l.toArray C (fun a' => ∀ w', C w' → wpList P l.toArray Q (l.drop n) a' w') (l.take n) a) : (Code.region id l.toArray true).wp P Q a w := by
  obtain ⟨vals, hq, hs⟩ := wpK_vals _ _ h
  refine region_core (Γ := Unit) (C := fun _ _ w => C w) n hm ht hB () hC (fun _ => vals) (fun i o hi γ L w _ _ hC' => ⟨(), fun _ _ => rfl, ?_⟩) (fun _ L w' _ hC' => hq w' hC')
  rcases hs i o hi with ⟨h1, h2⟩ | ⟨h1, h2⟩
  · exact .inl ⟨h1, h2 w hC'⟩
  · exact .inr ⟨h1, h2, hC'⟩

/-! ### One operation among them writes: ahead of it the worlds are of 'C false', behind it of 'C true' -/
def wpS (P : Program) (ops : Array Oper) (s : Nat) (C : Bool → World → Prop) (Q : Act → Prop) : Nat → List Oper → Act → Prop
  | _, [], a => Q a
  | k, o :: rest, a => ∃ v, ((Region.wanted o (yielded ops a.tmps) = true ∧ ((k = s ∧ ∀ w, C false w → Gives P o a w v (C true)) ∨ (k ≠ s ∧ ∀ b w, C b w → Gives P o a w v (C b)))) ∨
      (Region.wanted o (yielded ops a.tmps) = false ∧ k ≠ s ∧ v = undef)) ∧ wpS P ops s C Q (k + 1) rest (a.put o.dst v)
section
variable {C : Bool → World → Prop} {Qk : Act → Prop} {o : Oper} {rest : List Oper} {a : Act} {v : Value} {k s : Nat}
theorem wpS_nil (h : Qk a) : wpS P ops s C Qk k [] a := h
theorem wpS_val (hk : k ≠ s) (hw : Region.wanted o (yielded ops a.tmps) = true) (h1 : ∀ b w, C b w → Gives P o a w v (C b)) (h2 : wpS P ops s C Qk (k + 1) rest (a.put o.dst v)) : wpS P ops s C Qk k (o :: rest) a :=
  ⟨v, .inl ⟨hw, .inr ⟨hk, h1⟩⟩, h2⟩
theorem wpS_put (hk : k = s) (hw : Region.wanted o (yielded ops a.tmps) = true) (h1 : ∀ w, C false w → Gives P o a w v (C true)) (h2 : wpS P ops s C Qk (k + 1) rest (a.put o.dst v)) : wpS P ops s C Qk k (o :: rest) a :=
  ⟨v, .inl ⟨hw, .inl ⟨hk, h1⟩⟩, h2⟩
end
theorem wpS_vals {s : Nat} {C : Bool → World → Prop} {Qk : Act → Prop} : ∀ (l : List Oper) (k : Nat) (a : Act), wpS P ops s C Qk k l a → ∃ vals : Nat → Value, Qk (lexF l vals l.length a) ∧
    ∀ i o, l[i]? = some o → ((Region.wanted o (yielded ops (lexF l vals i a).tmps) = true ∧ ((k + i = s ∧ ∀ w, C false w → Gives P o (lexF l vals i a) w (vals i) (C true)) ∨ (k + i ≠ s ∧ ∀ b w, C b w → Gives P o (lexF l vals i a) w (vals i) (C b)))) ∨
      (Region.wanted o (yielded ops (lexF l vals i a).tmps) = false ∧ k + i ≠ s ∧ vals i = undef))
  | [], _, a, h => ⟨fun _ => undef, h, fun i o hi => by simp at hi⟩
  | o :: l, k, a, h => by
    obtain ⟨v, h1, h2⟩ := h
    obtain ⟨vals, hq, hs⟩ := wpS_vals l (k + 1) _ h2
    refine ⟨fun j => match j with | 0 => v | j + 1 => vals j, ?_, fun i o' hi => ?_⟩
    · rw [List.length_cons, lexF_cons]; exact hq
    · cases i with
      | zero =>
        simp only [List.getElem?_cons_zero, Option.some.injEq] at hi
        subst hi
        exact h1
      | succ i =>
        rw [lexF_cons, show k + (i + 1) = k + 1 + i by omega]
        exact hs i o' (by simpa using hi)
theorem wp_region_put {id : Nat} {Q : Exit → Act → World → Prop} {C : Bool → World → Prop} {a : Act} {w : World} {l : List Oper} (s n : Nat) (hsn : s < n) (hm : P.follows .mixedOrders = true) (ht : tidy l.toArray = true) (hB : tailB l.toArray n = true)
    (hC : C false w.drew) (h : wpS P l.toArray s C (fun a' => ∀ w', C true w' → wpList P l.toArray Q (l.drop n) a' w') 0 (l.take n) a) : (Code.region id l.toArray true).wp P Q a w := by
  obtain ⟨vals, hq, hs⟩ := wpS_vals _ _ _ h
  have hset : ∀ (L : Array Bool) i, i ≠ s → (L.setIfInBounds i true).getD s false = L.getD s false := fun L i hi => getD_set_ne false hi
  refine region_core (Γ := Unit) (C := fun _ L w => C (L.getD s false) w) n hm ht hB () (by rw [getD_replicate_false]; exact hC) (fun _ => vals) (fun i o hi γ L w hsz hr hC' => ⟨(), fun _ _ => rfl, ?_⟩) (fun _ L w' hall hC' => hq w' (by rw [hall s hsn] at hC'; exact hC'))
  rcases hs i o hi with ⟨h1, ⟨h2, h3⟩ | ⟨h2, h3⟩⟩ | ⟨h1, h2, h3⟩
  · rw [Nat.zero_add] at h2
    subst h2
    have hun := getD_both (mem_ready.1 hr).1
    have hio := (mem_ready.1 hr).2
    obtain ⟨o', ho', _⟩ := hio
    have hlt : i < L.size := by
      have := (Array.getElem?_eq_some_iff.1 ho').1
      simp at this; omega
    have e1 : (L.setIfInBounds i true).getD i false = true := by simp [hlt]
    simp only [hun] at hC'
    simp only [e1]
    exact .inl ⟨h1, h3 w hC'⟩
  · rw [Nat.zero_add] at h2
    simp only [hset L i h2]
    exact .inl ⟨h1, h3 _ w hC'⟩
  · rw [Nat.zero_add] at h2
    simp only [hset L i h2]
    exact .inr ⟨h1, h3, hC'⟩
end
end Go.Proofs.YtdmnhpgafbcehaaDoor
set_option maxRecDepth 100000
namespace Go.Proofs.YtdmnhpgafbcehaaDoor
open Go.ChangeShapes Go.WideShapes Go.ChangeAt Go.RowKit
/-- n bytes. -/
def ar (n : Nat) (f : Nat → Nat) : Array Value := row n fun k => .int .u8 (f k : Nat)
section
variable {n k v : Nat} {f g : Nat → Nat}
theorem size_ar : (ar n f).size = n := size_row
theorem get_ar (h : k < n) : (ar n f)[k]? = some (.int .u8 (f k : Nat)) := get_row_lt h
theorem ar_ext (h : ∀ k, k < n → f k = g k) : ar n f = ar n g := row_ext fun k hk => by rw [h k hk]
theorem ar_set : (ar n f).setIfInBounds k (.int .u8 (v : Nat)) = ar n fun j => if j = k then v else f j := by
  unfold ar
  rw [row_set]
  exact row_ext fun j _ => by by_cases e : j = k <;> simp [e]
theorem ar_one : (ar n f).all (·.oneCell') = true := row_one fun _ _ => rfl
theorem ar_list_get {j : Nat} {v : Value} (h : (ar n f).toList[j]? = some v) : j < n ∧ v = .int .u8 (f j : Nat) := by
  rw [Array.getElem?_toList] at h
  by_cases hj : j < n
  · rw [get_ar hj] at h; exact ⟨hj, (Option.some.inj h).symm⟩
  · rw [ar, get_row, if_neg hj] at h; cases h
/-- A loop over bytes: behind k rounds the first k are turned. -/
def upTo (k : Nat) (f h : Nat → Nat) : Nat → Nat := fun j => if j < k then h j else f j
theorem upTo_zero {f h : Nat → Nat} : upTo 0 f h = f := by funext j; simp [upTo]
theorem upTo_step {w : World} {b n k : Nat} {t : TypeId} {f h : Nat → Nat} (hb : Blk w b t ((ar n (upTo k f h)).setIfInBounds k (.int .u8 (h k : Nat)))) : Blk w b t (ar n (upTo (k + 1) f h)) := by
  rw [ar_set] at hb
  rw [ar_ext (g := fun j => if j = k then h k else upTo k f h j) fun j _ => ?_]
  · exact hb
  · unfold upTo
    by_cases e : j = k
    · subst e; simp
    · simp only [e, if_false]
      by_cases h2 : j < k
      · rw [if_pos h2, if_pos (by omega)]
      · rw [if_neg h2, if_neg (by omega)]
theorem upTo_all {n : Nat} {f h : Nat → Nat} {k : Nat} (hk : n ≤ k) : ar n (upTo k f h) = ar n h := ar_ext fun j hj => by unfold upTo; rw [if_pos (by omega)]
theorem Blk.arRange {w : World} {b o m : Nat} {t : TypeId} (hb : Blk w b t (ar n f)) (h : o + m ≤ n) : w.rangeAt b o (ar m fun k => f (o + k)).toList := fun j v hv => by
  obtain ⟨h1, rfl⟩ := ar_list_get hv
  rw [hb.cell, get_ar (by omega)]
/-- The bytes from place o on replaced. -/
def putA (o m : Nat) (f h : Nat → Nat) : Nat → Nat := fun j => if o ≤ j ∧ j < o + m then h (j - o) else f j
theorem Blk.there {w : World} {b o m N : Nat} {t : TypeId} {F : Nat → Value} (hb : Blk w b t (row N F)) (hm : o + m ≤ N) : w.there b o m := fun j hj => by
  refine ⟨?_, hb.frozen _⟩
  rw [hb.cell, get_row_lt (by omega)]; rfl
end
/-- Of type T is a row of n bytes. -/
structure ArT (T : TypeId) (n : Nat) : Prop where
  size : (Tryd.prog.info? T).map (·.size) = some n
  desc : ∃ d, Tryd.prog.underlying T = some d ∧ d.isRow = true
  zero : ∀ w, (zeroValue T).run Tryd.prog w = .ok (.agg (ar n fun _ => 0)) w
section
variable {ops : Array Oper} {Q : Exit → Act → World → Prop} {a : Act} {w : World} {rest : List Oper} {dst : Option Tmp} {ty : TypeId} {pos : String} {after : Array Edge} {x y : Operand} {g o n m : Nat} {f f0 : Nat → Nat} {T t : TypeId}
theorem Blk.head (hb : Blk w g t (ar n f)) : w.rangeAt g 0 (ar n f).toList := by
  have h := hb.arRange (o := 0) (m := n) (by omega)
  rw [ar_ext (g := f) fun k _ => by rw [Nat.zero_add]] at h
  exact h
theorem ldAm (hT : ArT T n) (hx : a.eval x = .pointer (some ⟨g, o, none⟩)) (hb : w.rangeAt g o (ar n f).toList) (h : wpList Tryd.prog ops Q rest (a.put dst (.agg (ar n f))) w) :
    wpList Tryd.prog ops Q (⟨dst, .load T x, ty, pos, after, none⟩ :: rest) a w := by
  obtain ⟨d, h1, h2⟩ := hT.desc
  exact step_load_mid hb h1 h2 (hT.size.trans (by rw [Array.length_toList, size_ar])) hx (by rw [Array.toArray_toList]; exact h)
theorem ldA (hT : ArT T n) (hx : a.eval x = .pointer (some ⟨g, 0, none⟩)) (hb : Blk w g t (ar n f)) (h : wpList Tryd.prog ops Q rest (a.put dst (.agg (ar n f))) w) :
    wpList Tryd.prog ops Q (⟨dst, .load T x, ty, pos, after, none⟩ :: rest) a w := ldAm hT hx hb.head h
theorem stA (hT : ArT T n) (hx : a.eval x = .pointer (some ⟨g, 0, none⟩)) (hy : a.eval y = .agg (ar n f)) (hb : Blk w g t (ar n f0)) (h : wpList Tryd.prog ops Q rest (a.put dst undef) (w.setRow g (ar n f))) :
    wpList Tryd.prog ops Q (⟨dst, .store T x y, ty, pos, after, none⟩ :: rest) a w :=
  step_store_row hb (hT.size.trans (by rw [size_ar])) (by rw [size_ar, size_ar]) ar_one hx hy h
theorem run_alloc_ar (hT : ArT T n) (w : World) : (Instr.alloc T true (.tuple #[])).run Tryd.prog w = .ok (.pointer (some ⟨w.heap.size, 0, none⟩)) (w.alloc (.cells (ar n fun _ => 0) T)) := by
  simp [Instr.alloc, Sem.run_bind, hT.zero w, newVar, newRow, Value.cells]
theorem alA (hT : ArT T n) (h : wpList Tryd.prog ops Q rest (a.put dst (.pointer (some ⟨w.heap.size, 0, none⟩))) (w.alloc (.cells (ar n fun _ => 0) T))) :
    wpList Tryd.prog ops Q (⟨dst, .alloc T, ty, pos, after, none⟩ :: rest) a w := by
  refine wpList_plain rfl fun K hK => ?_
  unfold Oper.wp execOp
  simp only [Sem.run_bind, run_alloc_ar hT w, Result.andThen_ok, Sem.run_pure]
  exact hK _ _ h
theorem run_ldm (hT : ArT T n) {w : World} (hb : w.rangeAt g o (ar n f).toList) : (Instr.loadAt T (.pointer (some ⟨g, o, none⟩))).run Tryd.prog w = .ok (.agg (ar n f)) w := by
  obtain ⟨d, h1, h2⟩ := hT.desc
  have := run_loadAt_mid (P := Tryd.prog) w g o T (ar n f).toList _ hb h1 h2 (hT.size.trans (by rw [Array.length_toList, size_ar]))
  rwa [Array.toArray_toList] at this
section
variable {C : World → Prop} {Qk : Act → Prop} {gd : Option (Nat × Bool)}
theorem kldA (hT : ArT T n) (hwt : Region.wanted ⟨dst, .load T x, ty, pos, after, gd⟩ (yielded ops a.tmps) = true) (hx : a.eval x = .pointer (some ⟨g, o, none⟩)) (hb : ∀ w, C w → w.rangeAt g o (ar n f).toList) (h : wpK Tryd.prog ops C Qk rest (a.put dst (.agg (ar n f)))) :
    wpK Tryd.prog ops C Qk (⟨dst, .load T x, ty, pos, after, gd⟩ :: rest) a :=
  wpK_val hwt (fun w hw => gives_value (w' := w) (by simp only [execOp, hx, Sem.run_bind, run_ldm hT (hb w hw), Result.andThen_ok, Sem.run_pure]) hw) h
end
theorem ret_ar {fn : Func} {R : Ending → World → Prop} {p : Tmp} (hT : ArT T n) (hr : fn.results = #[.cell p T]) (hp : a.tmps.getD p undef = .pointer (some ⟨g, 0, none⟩)) (hdf : a.defers = [])
    (hb : Blk w g t (ar n f)) (hR : R (.returned (.agg (ar n f))) w) : bodyPost Tryd.prog fn R .ret a w := by
  obtain ⟨d, h1, h2⟩ := hT.desc
  exact ret_row hr hb h1 h2 (hT.size.trans (by rw [size_ar])) hp hdf hR
end
def eqA (n : Nat) (f g : Nat → Nat) : Bool := eqN n (fun k => f k) fun k => g k
theorem eqA_iff {n : Nat} {f g : Nat → Nat} : eqA n f g = true ↔ ∀ k, k < n → f k = g k := by
  unfold eqA eqN
  rw [List.all_eq_true]
  constructor
  · intro h k hk
    have := h k (List.mem_range.2 hk)
    exact Int.ofNat_inj.1 (beq_iff_eq.1 this)
  · intro h k hk
    have := h k (List.mem_range.1 hk)
    exact beq_iff_eq.2 (congrArg _ this)
theorem eqA_yes {n : Nat} {f g : Nat → Nat} (h : ∀ k, k < n → f k = g k) : eqA n f g = true := eqA_iff.2 h
theorem run_eql_ar {T : TypeId} {n : Nat} (hT : Tryd.prog.underlying T = some (.array n 5)) (w : World) (f g : Nat → Nat) : (binOp .eql T (.agg (ar n f)) (.agg (ar n g))).run Tryd.prog w = .ok (.bool (eqA n f g)) w := by
  rw [run_eql_struct]
  have := run_equalIn_row (P := Tryd.prog) (d := 9998) (t := T) (e := 5) (k := .u8) (n := n) (f := fun k => f k) (g := fun k => g k) hT Tryd.underlying5 (by kernel_rfl) w
  unfold ar
  rw [this]
  rfl
theorem run_neq_ar {T : TypeId} {n : Nat} (hT : Tryd.prog.underlying T = some (.array n 5)) (w : World) (f g : Nat → Nat) : (binOp .neq T (.agg (ar n f)) (.agg (ar n g))).run Tryd.prog w = .ok (.bool (!eqA n f g)) w := by
  rw [run_neq_struct]
  have := run_equalIn_row (P := Tryd.prog) (d := 9998) (t := T) (e := 5) (k := .u8) (n := n) (f := fun k => f k) (g := fun k => g k) hT Tryd.underlying5 (by kernel_rfl) w
  unfold ar
  rw [this]
  rfl
section
variable {a : Act} {w : World} {g h n m : Nat} {f f' : Nat → Nat} {T U : TypeId}
theorem run_ar_var {t : TypeId} (hT : ArT T n) (hb : Blk w g t (ar n f)) : (loadVar T ⟨g, 0, none⟩).run Tryd.prog w = .ok (.agg (ar n f)) w := by
  obtain ⟨d, h1, h2⟩ := hT.desc
  have := run_loadVar_mid (P := Tryd.prog) w g 0 T (ar n f).toList _ hb.head h1 h2 (hT.size.trans (by rw [Array.length_toList, size_ar]))
  rwa [Array.toArray_toList] at this
theorem ret_ar2 {t u : TypeId} {fn : Func} {R : Ending → World → Prop} {p q : Tmp} (hT : ArT T n) (hU : ArT U m) (hr : fn.results = #[.cell p T, .cell q U]) (hp : a.tmps.getD p undef = .pointer (some ⟨g, 0, none⟩)) (hq : a.tmps.getD q undef = .pointer (some ⟨h, 0, none⟩))
    (hdf : a.defers = []) (hb : Blk w g t (ar n f)) (hb' : Blk w h u (ar m f')) (hR : R (.returned (.tuple #[.agg (ar n f), .agg (ar m f')])) w) : bodyPost Tryd.prog fn R .ret a w := by
  refine bodyPost_ret ?_ hdf hR
  have hp' : a.tmps[p]?.getD undef = .pointer (some ⟨g, 0, none⟩) := by simpa using hp
  have hq' : a.tmps[q]?.getD undef = .pointer (some ⟨h, 0, none⟩) := by simpa using hq
  simp [results, hr, hp', hq', asAddr, run_ar_var hT hb, run_ar_var hU hb']
end
end Go.Proofs.YtdmnhpgafbcehaaDoor
set_option maxRecDepth 100000
namespace Go.Proofs.YtdmnhpgafbcehaaDoor
open Go.ChangeShapes Go.WideShapes Go.ChangeAt Go.RowKit
section
variable {ops : Array Oper} {Q : Exit → Act → World → Prop} {a : Act} {w : World} {rest : List Oper} {dst : Option Tmp} {ty : TypeId} {pos : String} {after : Array Edge} {s x : Operand} {m c B B' : Nat} {v : Value} {l kk : List Nat} {S e : TypeId} {k : IntKind} {ad : Addr}
end
theorem Own.lower {e : TypeId} {k : IntKind} {w : World} {B B' : Nat} {v : Value} {l : List Nat} (h : Own e k w B v l) (hB : B' ≤ B) : Own e k w B' v l := by
  refine ⟨h.1, ?_⟩
  rcases h.2 with h' | ⟨g, cap, cur, hv, hb, hr⟩
  · exact .inl h'
  · exact .inr ⟨g, cap, cur, hv, Nat.le_trans hB hb, hr⟩
/-- They lie in rows of their own. -/
def Apart (v u : Value) : Prop := ∀ g, v.ownBlock = some g → u.ownBlock ≠ some g
theorem Apart.symm {v u : Value} (h : Apart v u) : Apart u v := fun g hu hv => h g hv hu
theorem Apart.nil (v : Value) : Apart v (.slice none 0 0) := fun g _ h => by cases h
theorem Own.keep {e : TypeId} {k : IntKind} {w w' : World} {B : Nat} {v u : Value} {l : List Nat} (h : Own e k w B v l) (hg : w.grownBy w' u.ownBlock) (hne : Apart v u) : Own e k w' B v l := by
  refine World.ownsRow.kept h hg ?_
  cases hv : v.ownBlock with
  | none => exact .inl rfl
  | some g => exact .inr (Ne.symm (hne g hv))
end Go.Proofs.YtdmnhpgafbcehaaDoor
set_option maxRecDepth 100000
namespace Go.Proofs.YtdmnhpgafbcehaaDoor
open Go.ChangeShapes Go.WideShapes Go.ChangeAt Go.RowKit
attribute [local go_sem] Gives
namespace TgP
theorem tK : ArT 23 32 := ⟨by kernel_rfl, ⟨_, Tryd.underlying23, rfl⟩, (zero_of_info (P := Tryd.prog) (t := 23) (v := .agg (ar 32 fun _ => 0)) (n := 32) (by kernel_rfl)).1⟩
theorem tT : ArT 36 32 := ⟨by kernel_rfl, ⟨_, Tryd.underlying36, rfl⟩, (zero_of_info (P := Tryd.prog) (t := 36) (v := .agg (ar 32 fun _ => 0)) (n := 32) (by kernel_rfl)).1⟩
theorem tS : ArT 50 64 := ⟨by kernel_rfl, ⟨_, Tryd.underlying50, rfl⟩, (zero_of_info (P := Tryd.prog) (t := 50) (v := .agg (ar 64 fun _ => 0)) (n := 64) (by kernel_rfl)).1⟩
/-- n bytes as a list. -/
def ls (n : Nat) (f : Nat → Nat) : List Nat := (List.range n).map f
theorem ls_length (n : Nat) (f : Nat → Nat) : (ls n f).length = n := by simp [ls]
theorem ls_256 {n : Nat} {f : Nat → Nat} (h : ∀ i, f i < 256) : B256 (ls n f) := fun x hx => by
  obtain ⟨i, _, rfl⟩ := List.mem_map.1 hx
  exact h i
/-- A number's bits as they stand. -/
def bits (x : Int) : Nat := (x % 18446744073709551616).toNat
theorem bits_lt (x : Int) : bits x < 18446744073709551616 := by unfold bits; omega
theorem ownDown {w : World} {B B' : Nat} {v : Value} {l : List Nat} (h : Own 5 .u8 w B v l) (hB : B' ≤ B) : Own 5 .u8 w B' v l :=
  ⟨h.1, h.2.imp id fun ⟨g, cap, cur, hv, hb, hr⟩ => ⟨g, cap, cur, hv, Nat.le_trans hB hb, hr⟩⟩
/-- Two tags, one behind the other. -/
def joined (f g : Nat → Nat) (j : Nat) : Nat := if j < 32 then f j else g (j - 32)
theorem rowB2_length {d x : Nat} {s : Nat → Nat} : (BytM.rowB d [BytM.dig 8 x, ls 64 s]).length = 82 := by
  unfold BytM.rowB BytM.flatP BytM.flatP BytM.flatP
  simp only [List.length_cons, List.length_append, BytM.dig_length, ls_length, List.length_nil]
theorem rowB2_256 {d : Nat} {l m : List Nat} (hd : d < 256) (h : B256 l) (h2 : B256 m) : B256 (BytM.rowB d [l, m]) := fun x hx => by
  unfold BytM.rowB at hx
  rcases List.mem_cons.1 hx with rfl | hx
  · exact hd
  rcases List.mem_cons.1 hx with rfl | hx
  · show 2 < 256; omega
  · refine BytM.flatP_256 (fun p hp => ?_) x hx
    rcases List.mem_cons.1 hp with rfl | hp
    · exact h
    · obtain rfl := List.mem_singleton.1 hp
      exact h2
/-- Of a leaf (d = 76), a node (d = 78). -/
def numT (d : Nat) (num : Int) (s : Nat → Nat) : List Nat := BytM.rowB d [BytM.dig 8 (bits num), ls 64 s]
/-- Of a root record (d = 82), a header (72), a body (66). -/
def plainT (d : Nat) (l : List Nat) : List Nat := BytM.rowB d [l]
abbrev NumText (f d : Nat) : Prop := ∀ (num : Int), (-9223372036854775808 ≤ num ∧ num ≤ 9223372036854775807) → ∀ (s : Nat → Nat), (∀ i, s i < 256) → ∀ w : World,
  Calls Tryd.prog f #[.int .i64 num, .agg (ar 64 s)] w fun e w' => ∃ v, e = .returned v ∧ Own 5 .u8 w' w.heap.size v (numT d num s) ∧ Below w.heap.size w w'
abbrev PlainText (f d : Nat) : Prop := ∀ (A : Option Addr) (l : List Nat) (n cap : Nat), n ≤ 10000 → ∀ w : World, Arg w A l n cap →
  Calls Tryd.prog f #[.slice A n cap] w fun e w' => ∃ v, e = .returned v ∧ Own 5 .u8 w' w.heap.size v (plainT d l) ∧ Below w.heap.size w w'
structure JoinC : Prop where
  join : ∀ (f g : Nat → Nat) (w : World), Calls Tryd.prog 28 #[.agg (ar 32 f), .agg (ar 32 g)] w fun e w' => e = .returned (.agg (ar 64 (joined f g))) ∧ Below w.heap.size w w'
  split : ∀ (f : Nat → Nat) (w : World), Calls Tryd.prog 46 #[.agg (ar 64 f)] w fun e w' => e = .returned (.tuple #[.agg (ar 32 f), .agg (ar 32 fun j => f (32 + j))]) ∧ Below w.heap.size w w'
end TgP
end Go.Proofs.YtdmnhpgafbcehaaDoor
set_option maxRecDepth 100000
namespace Go.Proofs.YtdmnhpgafbcehaaDoor
open Go.ChangeShapes Go.WideShapes Go.ChangeAt Go.RowKit
theorem eltB : Elt 91 5 .u8 := elt_of Tryd.underlying91 (by kernel_rfl) (by kernel_rfl) (by kernel_rfl)
end Go.Proofs.YtdmnhpgafbcehaaDoor
set_option maxRecDepth 100000
namespace Go.Proofs.YtdmnhpgafbcehaaDoor
open Go.ChangeShapes Go.WideShapes Go.ChangeAt Go.RowKit
attribute [local go_sem] Gives
namespace TgP
end TgP
end Go.Proofs.YtdmnhpgafbcehaaDoor
set_option maxRecDepth 100000
namespace Go.Proofs.YtdmnhpgafbcehaaDoor
open Go.ChangeShapes Go.WideShapes Go.ChangeAt Go.RowKit
attribute [local go_sem] Gives
namespace TgP
end TgP
end Go.Proofs.YtdmnhpgafbcehaaDoor
namespace Go.Proofs.YtdmnhpgafbcehaaDoor.ShaM
/-- The n lowest bits come to the top. -/
def rr (x n : Nat) : Nat := (x * 2 ^ (32 - n)) % 4294967296 ||| x / 2 ^ n
def add (a b : Nat) : Nat := (a + b) % 4294967296
def not32 (x : Nat) : Nat := 4294967295 - x
structure S8 where
  a : Nat
  b : Nat
  c : Nat
  d : Nat
  e : Nat
  f : Nat
  g : Nat
  h : Nat
deriving DecidableEq
def S8.get (s : S8) : Nat → Nat
  | 0 => s.a
  | 1 => s.b
  | 2 => s.c
  | 3 => s.d
  | 4 => s.e
  | 5 => s.f
  | 6 => s.g
  | 7 => s.h
  | _ => 0
def S8.ok (s : S8) : Prop := s.a < 4294967296 ∧ s.b < 4294967296 ∧ s.c < 4294967296 ∧ s.d < 4294967296 ∧ s.e < 4294967296 ∧ s.f < 4294967296 ∧ s.g < 4294967296 ∧ s.h < 4294967296
theorem S8.get_lt {s : S8} (h : s.ok) : ∀ k, s.get k < 4294967296
  | 0 => h.1
  | 1 => h.2.1
  | 2 => h.2.2.1
  | 3 => h.2.2.2.1
  | 4 => h.2.2.2.2.1
  | 5 => h.2.2.2.2.2.1
  | 6 => h.2.2.2.2.2.2.1
  | 7 => h.2.2.2.2.2.2.2
  | _ + 8 => by simp [S8.get]
/-- p and q of a step; x: salt and message's number. -/
def pOf (s : S8) (x : Nat) : Nat := add (add (add s.h (rr s.e 6 ^^^ rr s.e 11 ^^^ rr s.e 25)) ((s.e &&& s.f) ^^^ (not32 s.e &&& s.g))) x
def qOf (s : S8) : Nat := add (rr s.a 2 ^^^ rr s.a 13 ^^^ rr s.a 22) ((s.a &&& s.b) ^^^ (s.a &&& s.c) ^^^ (s.b &&& s.c))
def step (s : S8) (x : Nat) : S8 := ⟨add (pOf s x) (qOf s), s.a, s.b, s.c, add s.d (pOf s x), s.e, s.f, s.g⟩
theorem add_lt (a b : Nat) : add a b < 4294967296 := Nat.mod_lt _ (by omega)
theorem step_ok {s : S8} (h : s.ok) (x : Nat) : (step s x).ok := ⟨add_lt _ _, h.1, h.2.1, h.2.2.1, add_lt _ _, h.2.2.2.2.1, h.2.2.2.2.2.1, h.2.2.2.2.2.2.1⟩
theorem rr_lt {x : Nat} (h : x < 4294967296) (n : Nat) : rr x n < 4294967296 := by
  unfold rr
  exact Nat.or_lt_two_pow (n := 32) (Nat.mod_lt _ (by omega)) (Nat.lt_of_le_of_lt (Nat.div_le_self _ _) h)
/-- The number of four bytes. -/
def word (b : Nat → Nat) (j : Nat) : Nat := ((b (4 * j) * 256 + b (4 * j + 1)) * 256 + b (4 * j + 2)) * 256 + b (4 * j + 3)
def l0 (x : Nat) : Nat := rr x 7 ^^^ rr x 18 ^^^ (x / 8)
def l1 (x : Nat) : Nat := rr x 17 ^^^ rr x 19 ^^^ (x / 1024)
/-- The next number of the message. -/
def next (m : List Nat) (n : Nat) : Nat := add (add (add (m.getD (n - 16) 0) (l0 (m.getD (n - 15) 0))) (m.getD (n - 7) 0)) (l1 (m.getD (n - 2) 0))
def ext : Nat → List Nat → List Nat
  | 0, m => m
  | k + 1, m => ext k (m ++ [next m m.length])
def first (b : Nat → Nat) : List Nat := (List.range 16).map (word b)
def sched (b : Nat → Nat) : List Nat := ext 48 (first b)
theorem ext_succ : ∀ (k : Nat) (m : List Nat), ext (k + 1) m = ext k m ++ [next (ext k m) (ext k m).length]
  | 0, m => rfl
  | k + 1, m => by rw [ext, ext_succ k]; rfl
theorem ext_length : ∀ (k : Nat) (m : List Nat), (ext k m).length = m.length + k
  | 0, m => rfl
  | k + 1, m => by rw [ext_succ, List.length_append, ext_length k]; simp; omega
theorem first_length (b : Nat → Nat) : (first b).length = 16 := by simp [first]
theorem ext_get_old (k : Nat) (m : List Nat) (i : Nat) (h : i < m.length + k) : (ext (k + 1) m).getD i 0 = (ext k m).getD i 0 := by
  rw [ext_succ, List.getD_eq_getElem?_getD, List.getD_eq_getElem?_getD, List.getElem?_append_left (by rw [ext_length]; exact h)]
theorem getD_last (l : List Nat) (x : Nat) : (l ++ [x]).getD l.length 0 = x := by
  rw [List.getD_eq_getElem?_getD, List.getElem?_append_right (Nat.le_refl _), Nat.sub_self]; rfl
theorem ext_get_new (k : Nat) (m : List Nat) : (ext (k + 1) m).getD (m.length + k) 0 = next (ext k m) (m.length + k) := by
  have h := getD_last (ext k m) (next (ext k m) (ext k m).length)
  rw [← ext_succ, ext_length] at h
  exact h
theorem first_get (b : Nat → Nat) {j : Nat} (h : j < 16) : (first b).getD j 0 = word b j := by
  simp [first, h]
theorem word_lt {b : Nat → Nat} (hb : ∀ k, b k < 256) (j : Nat) : word b j < 4294967296 := by
  have h0 := hb (4 * j); have h1 := hb (4 * j + 1); have h2 := hb (4 * j + 2); have h3 := hb (4 * j + 3)
  unfold word; omega
theorem getD_lt {m : List Nat} {M : Nat} (h0 : 0 < M) (h : ∀ x ∈ m, x < M) (i : Nat) : m.getD i 0 < M := by
  rw [List.getD_eq_getElem?_getD]
  cases e : m[i]? with
  | none => simpa using h0
  | some x => exact h x (List.mem_of_getElem? e)
theorem ext_lt : ∀ (k : Nat) {m : List Nat}, (∀ x ∈ m, x < 4294967296) → ∀ x ∈ ext k m, x < 4294967296
  | 0, _, h => h
  | k + 1, m, h => by
    rw [ext_succ]
    intro x hx
    rcases List.mem_append.1 hx with hx | hx
    · exact ext_lt k h x hx
    · rw [List.mem_singleton.1 hx]; exact add_lt _ _
theorem first_lt {b : Nat → Nat} (hb : ∀ k, b k < 256) : ∀ x ∈ first b, x < 4294967296 := by
  intro x hx
  obtain ⟨j, _, rfl⟩ := List.mem_map.1 hx
  exact word_lt hb j
/-- The salts. -/
def salts : List Nat := [1116352408, 1899447441, 3049323471, 3921009573, 961987163, 1508970993, 2453635748, 2870763221, 3624381080, 310598401, 607225278, 1426881987, 1925078388, 2162078206, 2614888103, 3248222580, 3835390401, 4022224774, 264347078, 604807628, 770255983, 1249150122, 1555081692, 1996064986, 2554220882, 2821834349, 2952996808, 3210313671, 3336571891, 3584528711, 113926993, 338241895, 666307205, 773529912, 1294757372, 1396182291, 1695183700, 1986661051, 2177026350, 2456956037, 2730485921, 2820302411, 3259730800, 3345764771, 3516065817, 3600352804, 4094571909, 275423344, 430227734, 506948616, 659060556, 883997877, 958139571, 1322822218, 1537002063, 1747873779, 1955562222, 2024104815, 2227730452, 2361852424, 2428436474, 2756734187, 3204031479, 3329325298]
def saltAt (n : Nat) : Nat := salts.getD n 0
/-- The first n steps of a pass. -/
def steps (m : List Nat) : Nat → S8 → S8
  | 0, s => s
  | n + 1, s => step (steps m n s) (add (saltAt n) (m.getD n 0))
theorem steps_ok (m : List Nat) {s : S8} (h : s.ok) : ∀ n, (steps m n s).ok
  | 0 => h
  | n + 1 => step_ok (steps_ok m h n) _
def addS (s t : S8) : S8 := ⟨add s.a t.a, add s.b t.b, add s.c t.c, add s.d t.d, add s.e t.e, add s.f t.f, add s.g t.g, add s.h t.h⟩
theorem addS_get (s t : S8) {k : Nat} (h : k < 8) : (addS s t).get k = add (s.get k) (t.get k) := by
  match k, h with
  | 0, _ | 1, _ | 2, _ | 3, _ | 4, _ | 5, _ | 6, _ | 7, _ => rfl
def pass (s : S8) (b : Nat → Nat) : S8 := addS (steps (sched b) 64 s) s
theorem addS_ok (s t : S8) : (addS s t).ok := ⟨add_lt _ _, add_lt _ _, add_lt _ _, add_lt _ _, add_lt _ _, add_lt _ _, add_lt _ _, add_lt _ _⟩
theorem pass_ok (s : S8) (b : Nat → Nat) : (pass s b).ok := addS_ok _ _
/-! ### The first 16 numbers, as they come up byte by byte -/
def acc (b : Nat → Nat) (o : Nat) : Nat → Nat
  | 0 => 0
  | c + 1 => acc b o c * 256 + b (o + c)
theorem acc_lt {b : Nat → Nat} (hb : ∀ k, b k < 256) (o : Nat) : ∀ c, acc b o c < 256 ^ c
  | 0 => by simp [acc]
  | c + 1 => by
    have h1 := acc_lt hb o c
    have h2 := hb (o + c)
    rw [acc, Nat.pow_succ]
    omega
def part (b : Nat → Nat) (k j : Nat) : Nat := acc b (4 * j) (min (k - 4 * j) 4)
theorem part_zero (b : Nat → Nat) (j : Nat) : part b 0 j = 0 := by unfold part; rw [Nat.zero_sub, Nat.zero_min]; rfl
theorem part_step {b : Nat → Nat} (hb : ∀ k, b k < 256) (k j : Nat) :
    part b (k + 1) j = if j = k / 4 then (part b k j * 256) % 4294967296 ||| b k else part b k j := by
  unfold part
  by_cases h : j = k / 4
  · rw [if_pos h]
    obtain ⟨r, hr, rfl⟩ : ∃ r, r < 4 ∧ k = 4 * j + r := ⟨k % 4, Nat.mod_lt _ (by omega), by omega⟩
    rw [show min (4 * j + r - 4 * j) 4 = r by omega, show min (4 * j + r + 1 - 4 * j) 4 = r + 1 by omega, acc]
    have h1 := acc_lt hb (4 * j) r
    have h2 : 256 ^ r ≤ 16777216 := Nat.le_trans (Nat.pow_le_pow_right (by omega) (show r ≤ 3 by omega)) (by decide)
    rw [Nat.mod_eq_of_lt (by omega)]
    have h3 := Nat.shiftLeft_add_eq_or_of_lt (i := 8) (hb (4 * j + r)) (acc b (4 * j) r)
    rw [Nat.shiftLeft_eq] at h3
    exact h3
  · rw [if_neg h]
    congr 1
    omega
theorem part_full (b : Nat → Nat) {j : Nat} (h : j < 16) : part b 64 j = word b j := by
  unfold part
  rw [show min (64 - 4 * j) 4 = 4 by omega]
  simp [acc, word]
theorem part_none (b : Nat → Nat) {j : Nat} (h : 16 ≤ j) : part b 64 j = 0 := by
  unfold part
  rw [show min (64 - 4 * j) 4 = 0 by omega]; rfl
theorem first_part (b : Nat → Nat) (j : Nat) : (first b).getD j 0 = part b 64 j := by
  rcases Nat.lt_or_ge j 16 with h | h
  · rw [first_get b h, part_full b h]
  · rw [part_none b h, List.getD_eq_getElem?_getD, List.getElem?_eq_none (by rw [first_length]; exact h)]; rfl
theorem part_lt {b : Nat → Nat} (hb : ∀ k, b k < 256) (k j : Nat) : part b k j < 4294967296 := by
  unfold part
  have h1 := acc_lt hb (4 * j) (min (k - 4 * j) 4)
  have h2 : 256 ^ (min (k - 4 * j) 4) ≤ 256 ^ 4 := Nat.pow_le_pow_right (by omega) (Nat.min_le_right _ _)
  have h3 : 256 ^ 4 = 4294967296 := by decide
  omega
/-- The numbers of the message, as far as n. -/
def upM (b : Nat → Nat) (k j : Nat) : Nat := (ext k (first b)).getD j 0
theorem upM_step (b : Nat → Nat) (k j : Nat) : upM b (k + 1) j = if j = 16 + k then next (ext k (first b)) (16 + k) else upM b k j := by
  unfold upM
  have hl : (first b).length = 16 := first_length b
  by_cases h : j = 16 + k
  · rw [if_pos h, h, ← hl]; exact ext_get_new k (first b)
  · rw [if_neg h]
    rcases Nat.lt_or_ge j (16 + k) with h2 | h2
    · exact ext_get_old k (first b) j (by omega)
    · rw [List.getD_eq_getElem?_getD, List.getD_eq_getElem?_getD, List.getElem?_eq_none (by rw [ext_length]; omega), List.getElem?_eq_none (by rw [ext_length]; omega)]
theorem upM_lt {b : Nat → Nat} (hb : ∀ k, b k < 256) (k j : Nat) : upM b k j < 4294967296 := getD_lt (by omega) (ext_lt k (first_lt hb)) j
theorem next_upM (b : Nat → Nat) (k : Nat) : next (ext k (first b)) (16 + k) = add (add (add (upM b k k) (l0 (upM b k (k + 1)))) (upM b k (k + 9))) (l1 (upM b k (k + 14))) := by
  unfold next upM
  rw [show 16 + k - 16 = k by omega, show 16 + k - 15 = k + 1 by omega, show 16 + k - 7 = k + 9 by omega, show 16 + k - 2 = k + 14 by omega]
/-- Bytes of a list, one by one. -/
def at' (l : List Nat) (k : Nat) : Nat := l.getD k 0
/-- All passes over whole 64s. -/
def passes (s : S8) (l : List Nat) : S8 := if _h : 64 ≤ l.length then passes (pass s (at' l)) (l.drop 64) else s
termination_by l.length
decreasing_by simp; omega
theorem passes_short {s : S8} {l : List Nat} (h : l.length < 64) : passes s l = s := by rw [passes, dif_neg (by omega)]
theorem passes_long {s : S8} {l : List Nat} (h : 64 ≤ l.length) : passes s l = passes (pass s (at' l)) (l.drop 64) := by rw [passes, dif_pos h]
theorem word_congr {b b' : Nat → Nat} (h : ∀ k, k < 64 → b k = b' k) {j : Nat} (hj : j < 16) : word b j = word b' j := by
  unfold word; rw [h _ (by omega), h _ (by omega), h _ (by omega), h _ (by omega)]
theorem first_congr {b b' : Nat → Nat} (h : ∀ k, k < 64 → b k = b' k) : first b = first b' :=
  List.map_congr_left fun _ hj => word_congr h (List.mem_range.1 hj)
theorem pass_congr (s : S8) {b b' : Nat → Nat} (h : ∀ k, k < 64 → b k = b' k) : pass s b = pass s b' := by unfold pass sched; rw [first_congr h]
theorem passes_append {l : List Nat} (n : Nat) : ∀ {s : S8} {k : List Nat}, k.length = 64 * n → passes s (k ++ l) = passes (passes s k) l := by
  induction n with
  | zero => intro s k hk; obtain rfl : k = [] := List.eq_nil_of_length_eq_zero (by omega); rw [passes_short (l := []) (by simp)]; rfl
  | succ n ih =>
    intro s k hk
    rw [passes_long (l := k ++ l) (by simp; omega), passes_long (l := k) (by omega), List.drop_append_of_le_length (by omega), ih (by simp; omega),
      pass_congr s fun i hi => ?_]
    unfold at'
    rw [List.getD_eq_getElem?_getD, List.getD_eq_getElem?_getD, List.getElem?_append_left (by omega)]
/-- The seeds. -/
def seeds : S8 := ⟨1779033703, 3144134277, 1013904242, 2773480762, 1359893119, 2600822924, 528734635, 1541459225⟩
theorem seeds_ok : seeds.ok := by unfold S8.ok seeds; decide
theorem passes_ok {l : List Nat} (n : Nat) : ∀ {s : S8}, l.length ≤ n → s.ok → (passes s l).ok := by
  induction n generalizing l with
  | zero => intro s hl h; rw [passes_short (by omega)]; exact h
  | succ n ih =>
    intro s hl h
    by_cases hc : 64 ≤ l.length
    · rw [passes_long hc]; exact ih (by simp; omega) (pass_ok _ _)
    · rw [passes_short (by omega)]; exact h
/-- Eight bytes of a number, the highest first. -/
def count8 (x : Nat) : List Nat := (List.range 8).map fun i => x / 2 ^ (8 * (7 - i)) % 256
/-- How many bytes 0 a tail of n bytes has. -/
def zeros (n : Nat) : Nat := (64 - (n + 9) % 64) % 64
def tail (n : Nat) : List Nat := 128 :: (List.replicate (zeros n) 0 ++ count8 (8 * n))
theorem tail_length (n : Nat) : (tail n).length = 9 + zeros n := by simp [tail, count8]; omega
/-- A digest's bytes. -/
def digest (s : S8) (j : Nat) : Nat := s.get (j / 4) / 2 ^ (8 * (3 - j % 4)) % 256
theorem digest_lt (s : S8) (j : Nat) : digest s j < 256 := Nat.mod_lt _ (by omega)
/-- The numbers of bytes that go on behind so many whole ones. -/
def ended (s : S8) (size : Nat) (rest : List Nat) : S8 := passes s (rest ++ tail (size + rest.length))
def sum (l : List Nat) : Nat → Nat := digest (ended seeds 0 l)
/-- What stands behind whole blocks may be gone through at once. -/
theorem ended_append {a r : List Nat} {s : S8} {size n : Nat} (ha : a.length = 64 * n) : ended s size (a ++ r) = ended (passes s a) (size + a.length) r := by
  unfold ended
  rw [List.append_assoc, passes_append n ha, List.length_append, Nat.add_assoc]
/-! ### The last block, or the last two -/
/-- What lies there when i of the count's bytes are laid: the bytes l that were left, the mark, and those. -/
def fin (l : List Nat) (size L i j : Nat) : Nat :=
  if j < l.length then l.getD j 0 else if j = l.length then 128 else if L - i ≤ j ∧ j < L then 8 * size / 2 ^ (8 * (L - 1 - j)) % 256 else 0
theorem fin_step (l : List Nat) {size L i c : Nat} (hn : l.length < L - 8) (hi : i < 8) (hc : c + i + 1 = L) :
    (fun j => if j = c then 8 * size / 2 ^ (8 * i) % 256 else fin l size L i j) = fin l size L (i + 1) := funext fun j => by
  unfold fin
  by_cases h : j = c
  · rw [if_pos h, if_neg (by omega), if_neg (by omega), if_pos (by omega), show L - 1 - j = i by omega]
  · rw [if_neg h]
    by_cases h1 : j < l.length
    · rw [if_pos h1, if_pos h1]
    · rw [if_neg h1, if_neg h1]
      by_cases h2 : j = l.length
      · rw [if_pos h2, if_pos h2]
      · rw [if_neg h2, if_neg h2]
        by_cases h3 : L - i ≤ j ∧ j < L
        · rw [if_pos h3, if_pos (by omega)]
        · rw [if_neg h3, if_neg (by omega)]
theorem fin_zero (l : List Nat) (size L : Nat) : (fun j => if j = l.length then 128 else if j < l.length then l.getD j 0 else 0) = fin l size L 0 := funext fun j => by
  unfold fin
  by_cases h : j = l.length
  · rw [if_pos h, if_neg (by omega), if_pos h]
  · rw [if_neg h]
    by_cases h1 : j < l.length
    · rw [if_pos h1, if_pos h1]
    · rw [if_neg h1, if_neg h1, if_neg h, if_neg (by omega)]
theorem count8_get (x : Nat) {i : Nat} (h : i < 8) : (count8 x).getD i 0 = x / 2 ^ (8 * (7 - i)) % 256 := by
  rw [count8, List.getD_eq_getElem?_getD, List.getElem?_map, List.getElem?_range h]; rfl
theorem ended_length {l : List Nat} {size L : Nat} (hs : size % 64 = l.length) (h : L = if l.length + 9 ≤ 64 then 64 else 128) : (l ++ tail size).length = L := by
  rw [List.length_append, tail_length]
  unfold zeros
  split at h <;> omega
theorem ended_get {l : List Nat} {size L : Nat} (hs : size % 64 = l.length) (h : L = if l.length + 9 ≤ 64 then 64 else 128) {j : Nat} (hj : j < L) : (l ++ tail size).getD j 0 = fin l size L 8 j := by
  have hz : l.length + 1 + zeros size = L - 8 := by unfold zeros; split at h <;> omega
  unfold fin
  rw [List.getD_eq_getElem?_getD]
  by_cases h1 : j < l.length
  · rw [if_pos h1, List.getElem?_append_left h1, List.getD_eq_getElem?_getD]
  · rw [if_neg h1, List.getElem?_append_right (by omega)]
    by_cases h2 : j = l.length
    · rw [if_pos h2, h2, Nat.sub_self]; rfl
    · rw [if_neg h2]
      obtain ⟨m, hm⟩ : ∃ m, j = l.length + (m + 1) := ⟨j - l.length - 1, by omega⟩
      rw [show j - l.length = m + 1 by omega, tail, List.getElem?_cons_succ]
      by_cases h3 : m < zeros size
      · rw [List.getElem?_append_left (by simpa using h3), List.getElem?_replicate, if_pos h3, if_neg (by omega)]; rfl
      · rw [List.getElem?_append_right (by simpa using h3), List.length_replicate, if_pos (by omega), ← List.getD_eq_getElem?_getD, count8_get _ (by omega), show 7 - (m - zeros size) = L - 1 - j by omega]
theorem tail_256 (n : Nat) : ∀ x ∈ tail n, x < 256 := by
  intro x hx
  rw [tail, List.mem_cons, List.mem_append] at hx
  rcases hx with rfl | hx | hx
  · decide
  · rw [(List.mem_replicate.1 hx).2]; decide
  · obtain ⟨i, _, rfl⟩ := List.mem_map.1 hx
    exact Nat.mod_lt _ (by omega)
end Go.Proofs.YtdmnhpgafbcehaaDoor.ShaM
set_option maxRecDepth 100000
namespace Go.Proofs.YtdmnhpgafbcehaaDoor
open Go.ChangeShapes Go.WideShapes Go.ChangeAt Go.RowKit
theorem ret_int {k : IntKind} {a b : Int} (h : a = b) : Ending.returned (.int k a) = .returned (.int k b) := by rw [h]
theorem neg_mask : ∀ n : Nat, n < 32 → 0 < n → bits .and .u64 (IntKind.u64.wrap (-(n : Int))) 31 = ((32 - n : Nat) : Int) := by decide +kernel
theorem rl_any (x n m : Nat) (hx : x < 4294967296) (h0 : 0 < n) (hn : n < 32) (hm : n + m = 32) (w : World) :
    Calls Tryd.prog 92 #[.int .u32 x, .int .i64 (-(n : Int))] w fun e w' => e = .returned (.int .u32 (ShaM.rr x n : Nat)) ∧ w = w' := by
  have H : bits .and .u64 (IntKind.u64.wrap (-(n : Int))) 31 = (m : Int) := by rw [neg_mask n hn h0]; omega
  go_enter Tryd.func92, Tryd.ntmps92
  go_wp2
  go_ret
  refine ⟨ret_int ?_, rfl⟩
  obtain rfl : m = 32 - n := by omega
  have e1 : (x : Int) * 2 ^ (32 - n) % 4294967296 = ((x * 2 ^ (32 - n) % 4294967296 : Nat) : Int) := by simp
  have e2 : (x : Int) / 2 ^ (32 - (32 - n)) = ((x / 2 ^ n : Nat) : Int) := by rw [show 32 - (32 - n) = n by omega]; simp
  rw [e1, e2, u32_or_nat _ _ (Nat.mod_lt _ (by omega)) (Nat.lt_of_le_of_lt (Nat.div_le_self _ _) hx)]
  rfl
theorem rot_any (x n : Nat) (hx : x < 4294967296) (h0 : 0 < n) (hn : n < 32) (w : World) :
    Calls Tryd.prog 90 #[.int .u32 x, .int .i64 n] w fun e w' => e = .returned (.int .u32 (ShaM.rr x n : Nat)) ∧ w = w' := by
  go_enter Tryd.func90, Tryd.ntmps90
  go_wp2_with ((with_reducible refine (rl_any x n (32 - n) hx h0 hn (by omega) _).mono ?_); rintro e w' ⟨rfl, rfl⟩)
  go_ret
  exact ⟨rfl, rfl⟩
end Go.Proofs.YtdmnhpgafbcehaaDoor
