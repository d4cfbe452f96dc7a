/-
  Lists of elements: an append to a slice that is full: a row of its own.
  Rows of n bytes loaded in a drawn region that makes a variable.
  Structs and arrays of any cells, loaded and stored whole.
  Lists of elements in a block of their own: read off ranges; several cells stored; cut; cleared.
  Lists of rows of K bytes each (tags, sectors), told by the place: as they come in, as the call's own; one loaded, one stored, one appended; made.
  The document's tree in memory; its tags (All).
  Rows of bytes: compared, built, returned beside a number.
  Tags and sectors compared, joined and cut: words of the laws of tags.
  The document's tree: New, Tag, Node.
  The document's tree: Set.
  A region that draws its order: of each operation's value one states what it is like (S); of the worlds what holds by which operations have come up, and by their values (C).
  The document's tree: Proof.
  The document's tree: New.
-/
import Derived.Test.YtdmnhpgafbcehaaDoorMrg5
import Derived.Laws.IdiomCopy
import Derived.Laws.OwnMore
import Derived.Deep.MidRow
set_option linter.unusedVariables false
set_option linter.unusedSimpArgs false
set_option maxRecDepth 100000
namespace Go.Proofs.YtdmnhpgafbcehaaDoor
open Go.ChangeShapes Go.WideShapes Go.ChangeAt Go.RowKit
section
variable {α : Type} {k : Nat} {en : α → List Value} {E L ty : TypeId} {S T : Nat → Prop} {w : World} {A B : Option Addr} {l m : List α}
variable {a : Act} {dst : Option Tmp} {pos : String} {after : Array Edge} {gd : Option (Nat × Bool)} {R : Value → World → Prop} {o1 o2 : Operand}
end
end Go.Proofs.YtdmnhpgafbcehaaDoor
set_option maxRecDepth 100000
namespace Go.Proofs.YtdmnhpgafbcehaaDoor
open Go.ChangeShapes Go.WideShapes Go.ChangeAt Go.RowKit
section
variable {ops : Array Oper} {a : Act} {rest : List Oper} {dst : Option Tmp} {ty : TypeId} {pos : String} {after : Array Edge} {x : Operand} {g o n : Nat} {f : Nat → Nat} {T : TypeId} {C : World → Prop} {Qk : Act → Prop} {gd : Option (Nat × Bool)}
end
end Go.Proofs.YtdmnhpgafbcehaaDoor
set_option maxRecDepth 100000
namespace Go.Proofs.YtdmnhpgafbcehaaDoor
open Go.ChangeShapes Go.WideShapes Go.ChangeAt Go.RowKit
attribute [local go_sem] Gives
/-- A type of n cells, one behind the other. -/
structure RowT (T : TypeId) (n : Nat) : Prop where
  size : (Tryd.prog.info? T).map (·.size) = some n
  desc : ∃ d, Tryd.prog.underlying T = some d ∧ d.isRow = true
section
variable {ops : Array Oper} {Q : Exit → Act → World → Prop} {a : Act} {w : World} {rest : List Oper} {dst : Option Tmp} {ty : TypeId} {pos : String} {after : Array Edge} {x y : Operand} {g o n : Nat} {cs : Array Value} {T : TypeId} {C : World → Prop} {Qk : Act → Prop} {gd : Option (Nat × Bool)}
theorem Blk.whole {t : TypeId} (h : Blk w g t cs) : w.rangeAt g 0 cs.toList := fun j v hj => by
  rw [Nat.zero_add, h.cell]; rwa [Array.getElem?_toList] at hj
theorem ldR (hT : RowT T cs.size) (hx : a.eval x = .pointer (some ⟨g, o, none⟩)) (hb : w.rangeAt g o cs.toList) (h : wpList Tryd.prog ops Q rest (a.put dst (.agg cs)) w) :
    wpList Tryd.prog ops Q (⟨dst, .load T x, ty, pos, after, none⟩ :: rest) a w := by
  obtain ⟨d, h1, h2⟩ := hT.desc
  exact step_load_mid hb h1 h2 (hT.size.trans (by rw [Array.length_toList])) hx (by rw [Array.toArray_toList]; exact h)
theorem stR {t : TypeId} {old : Array Value} (hT : RowT T cs.size) (hx : a.eval x = .pointer (some ⟨g, 0, none⟩)) (hy : a.eval y = .agg cs) (hb : Blk w g t old) (hs : old.size = cs.size) (h1 : cs.all (·.oneCell') = true) (h : wpList Tryd.prog ops Q rest (a.put dst undef) (w.setRow g cs)) :
    wpList Tryd.prog ops Q (⟨dst, .store T x y, ty, pos, after, none⟩ :: rest) a w :=
  step_store_row hb hT.size hs h1 hx hy h
end
end Go.Proofs.YtdmnhpgafbcehaaDoor
set_option maxRecDepth 100000
namespace Go.Proofs.YtdmnhpgafbcehaaDoor
open Go.ChangeShapes Go.WideShapes Go.ChangeAt Go.RowKit
section
variable {α : Type} {E L : TypeId} {k : Nat} {en : α → List Value} {w : World} {g cap : Nat} {l : List α}
theorem own_of_ranges {cur : Array Value} (hE : ∀ x, (en x).length = k) (hk : 0 < k) (hg : w.heap[g]? = some (.cells cur E (0, 0))) (hcs : cur.size = cap * k) (hn : l.length ≤ cap) (hcm : cap ≤ maxLen)
    (hr : ∀ (q : Nat) x, l[q]? = some x → w.rangeAt g (q * k) (en x)) : OwnX E k en w 0 (.slice (some ⟨g, 0, none⟩) l.length cap) l := by
  refine ⟨flat_len hE l, .inr ⟨g, cap, cur, rfl, Nat.zero_le _, hg, hn, hcm, hcs, ?_⟩⟩
  have hlk : l.length * k ≤ cap * k := Nat.mul_le_mul_right k hn
  refine List.ext_getElem? fun m => ?_
  by_cases hm : m < l.length * k
  · rw [List.getElem?_take_of_lt hm, Array.getElem?_toList]
    have hq : m / k < l.length := Nat.div_lt_of_lt_mul (by rw [Nat.mul_comm]; exact hm)
    have hrm := Nat.mod_lt m hk
    have hx : l[m / k]? = some l[m / k] := List.getElem?_eq_getElem hq
    have h1 := flat_at hE l (m / k) (m % k) _ hx hrm
    have hmm : m / k * k + m % k = m := by rw [Nat.mul_comm]; exact Nat.div_add_mod m k
    rw [hmm] at h1
    have hlen := hE l[m / k]
    have h2 : (en l[m / k])[m % k]? = some (en l[m / k])[m % k] := List.getElem?_eq_getElem (by omega)
    have h3 := hr _ _ hx (m % k) _ h2
    rw [hmm, cell_of_row w g m cur E (0, 0) hg] at h3
    rw [h3, h1, h2]
  · rw [List.getElem?_eq_none (by rw [List.length_take]; omega), List.getElem?_eq_none (by rw [flat_len hE]; omega)]
theorem cells_setCells {t : TypeId} {N : Nat} : ∀ (vs : List Value) (o : Nat) (w : World), (∃ cur, w.heap[g]? = some (.cells cur t (0, 0)) ∧ cur.size = N) → ∃ cur, (w.setCells g o vs).heap[g]? = some (.cells cur t (0, 0)) ∧ cur.size = N
  | [], _, _, h => h
  | v :: vs, o, w, ⟨cur, h1, h2⟩ => by
    have h3 : Blk w g t cur := h1
    exact cells_setCells vs (o + 1) _ ⟨_, h3.setCell_same o v, by rw [Array.size_setIfInBounds]; exact h2⟩
theorem turn_setCells : ∀ (vs : List Value) (o : Nat) (w : World), Turn (fun b => b = g) w (w.setCells g o vs)
  | [], _, _ => Turn.refl _ _
  | v :: vs, o, w => (Turn.setCell (S := fun b => b = g) w ⟨g, o, none⟩ v rfl).trans (turn_setCells vs (o + 1) _) fun _ e => .inl e
theorem there_of {t : TypeId} {cur : Array Value} {o m : Nat} (h : w.heap[g]? = some (.cells cur t (0, 0))) (hm : o + m ≤ cur.size) : w.there g o m := fun j hj => by
  have hb : Blk w g t cur := h
  refine ⟨?_, hb.frozen _⟩
  rw [cell_of_row w g (o + j) cur t (0, 0) h, Array.getElem?_eq_getElem (by omega)]
  rfl
variable {ops : Array Oper} {Q : Exit → Act → World → Prop} {a : Act} {rest : List Oper} {dst : Option Tmp} {ty : TypeId} {pos : String} {after : Array Edge} {x : Operand}
theorem wslF {y : Operand} {n c m : Nat} (hE : EltX E k en) (hu : Tryd.prog.underlying L = some (.slice E)) (hel : Tryd.prog.elem L = E) (hx : a.eval x = .slice (some ⟨g, 0, none⟩) n c) (hy : a.eval y = .int .i64 m) (hm : m ≤ n) (hc : m < c)
    (h : wpList Tryd.prog ops Q rest (a.put dst (.slice (some ⟨g, m * k, none⟩) (n - m) (c - m))) w) : wpList Tryd.prog ops Q (⟨dst, .slice L x (some y) none none, ty, pos, after, none⟩ :: rest) a w := by
  obtain ⟨ie, z, hi, hz, h1, h2, h3⟩ := hE.info
  have hsz : (sizeOf (Tryd.prog.elem L)).run Tryd.prog w = .ok k w := by rw [hel]; simp [sizeOf, typeInfo, hi, h1]
  have hu' : Tryd.prog.underlying L = some (.slice (Tryd.prog.elem L)) := by rw [hel]; exact hu
  have hr : (Instr.sliceAt L (.slice (some ⟨g, 0, none⟩) n c) (some (.int .i64 m)) none none).run Tryd.prog w = .ok (.slice (some ⟨g, m * k, none⟩) (n - m) (c - m)) w := by
    rw [run_sliceAt_slice w L _ _ _ _ hu', run_slice_l w L _ n c hu' .i64 m (by omega) (by omega), hsz]
    simp only [Result.andThen, sliced, Int.toNat_natCast]
    rw [if_neg (by omega), Option.map_some, Addr.add_mid, Nat.zero_add]
  refine wpList_plain rfl fun K hK => ?_
  unfold Oper.wp execOp
  simp only [Sem.run_bind, Option.map_some, Option.map_none, Sem.run_pure, hx, hy, hr, Result.andThen_ok]
  exact hK _ _ h
end
theorem OwnX.obj {w : World} {α : Type} {E : TypeId} {k : Nat} {en : α → List Value} {B b : Nat} {v : Value} {l : List α} (h : OwnX E k en w B v l) (hb : v.ownBlock = some b) : ∃ cur, w.heap[b]? = some (.cells cur E (0, 0)) := by
  rcases h.2 with ⟨rfl, _⟩ | ⟨g, cap, cur, rfl, _, hg, _⟩
  · cases hb
  · cases hb
    exact ⟨cur, hg⟩
section
variable {ops : Array Oper} {Q : Exit → Act → World → Prop} {a : Act} {w : World} {rest : List Oper} {dst : Option Tmp} {ty T : TypeId} {pos : String} {after : Array Edge} {z cs : Array Value} {g : Nat} {t : TypeId}
/-- A new variable of any row. -/
theorem alZ' (hz : ∀ w, (zeroValue T).run Tryd.prog w = .ok (.agg z) w) (h : wpList Tryd.prog ops Q rest (a.put dst (.pointer (some ⟨w.heap.size, 0, none⟩))) (w.alloc (.cells z T))) :
    wpList Tryd.prog ops Q (⟨dst, .alloc T, ty, pos, after, none⟩ :: rest) a w := by
  have hr : (Instr.alloc T true (.tuple #[])).run Tryd.prog w = .ok (.pointer (some ⟨w.heap.size, 0, none⟩)) (w.alloc (.cells z T)) := by
    simp [Instr.alloc, Sem.run_bind, hz w, newVar, newRow, Value.cells]
  refine wpList_plain rfl fun K hK => ?_
  unfold Oper.wp execOp
  simp only [Sem.run_bind, hr, Result.andThen_ok, Sem.run_pure]
  exact hK _ _ h
end
end Go.Proofs.YtdmnhpgafbcehaaDoor
set_option maxRecDepth 100000
namespace Go.Proofs.YtdmnhpgafbcehaaDoor
open Go.ChangeShapes Go.WideShapes Go.ChangeAt Go.RowKit
attribute [local go_sem] Gives GivesE
theorem Sli.bound {α : Type} {k : Nat} {en : α → List Value} {S : Nat → Prop} {w : World} {A : Option Addr} {l : List α} {n c : Nat} (h : Sli k en S w A l n c) : Sli k en (fun b => b < w.heap.size) w A l n c :=
  ⟨h.len, h.cap, h.max, h.none, fun hn => by
    obtain ⟨b, o, e, _, hl, hr⟩ := h.lst hn
    exact ⟨b, o, e, hl, hl, hr⟩⟩
namespace RwP
abbrev arL (K : Nat) (f : Nat → Nat) : List Value := (ar K f).toList
def lsF (n : Nat) (F : Nat → Nat → Nat) : List (Nat → Nat) := (List.range n).map F
def upF (F : Nat → Nat → Nat) (i : Nat) (f : Nat → Nat) : Nat → Nat → Nat := fun j => if j = i then f else F j
theorem arL_len (K : Nat) (f : Nat → Nat) : (arL K f).length = K := by rw [Array.length_toList, size_ar]
theorem lsF_len (n : Nat) (F : Nat → Nat → Nat) : (lsF n F).length = n := by simp [lsF]
theorem lsF_get {n i : Nat} {F : Nat → Nat → Nat} (h : i < n) : (lsF n F)[i]? = some (F i) := by simp [lsF, h]
theorem lsF_some {n i : Nat} {F : Nat → Nat → Nat} {x : Nat → Nat} (h : (lsF n F)[i]? = some x) : i < n ∧ x = F i := by
  have hi := (List.getElem?_eq_some_iff.1 h).1
  rw [lsF_len] at hi
  rw [lsF_get hi] at h
  exact ⟨hi, (Option.some.inj h).symm⟩
theorem lsF_snoc {n : Nat} {F : Nat → Nat → Nat} {f : Nat → Nat} : lsF n F ++ [f] = lsF (n + 1) (upF F n f) := by
  unfold lsF
  rw [List.range_succ, List.map_append]
  congr 1
  · exact List.map_congr_left fun i hi => by
      have := List.mem_range.1 hi
      unfold upF; rw [if_neg (by omega)]
  · simp [upF]
/-- A list of the call's own. -/
abbrev OwnF (E : TypeId) (K : Nat) (w : World) (B : Nat) (v : Value) (n : Nat) (F : Nat → Nat → Nat) : Prop := OwnX E K (arL K) w B v (lsF n F)
/-- A list that stands somewhere. -/
abbrev SliF (K : Nat) (S : Nat → Prop) (w : World) (A : Option Addr) (n : Nat) (F : Nat → Nat → Nat) (cap : Nat) : Prop := Sli K (arL K) S w A (lsF n F) n cap
theorem ar_one' {K : Nat} (f : Nat → Nat) : ∀ u ∈ arL K f, u.oneCell' = true := fun u hu => (Array.all_eq_true_iff_forall_mem.1 ar_one) u (by simpa using hu)
section
variable {E : TypeId} {K B n cap g i : Nat} {F G : Nat → Nat → Nat} {w w' : World} {v : Value} {f : Nat → Nat} {S : Nat → Prop} {A : Option Addr}
theorem OwnF.ext (h : OwnF E K w B v n F) (he : ∀ i j, i < n → j < K → F i j = G i j) : OwnF E K w B v n G := by
  have e : (lsF n F).flatMap (arL K) = (lsF n G).flatMap (arL K) := by
    unfold lsF
    rw [List.flatMap_def, List.flatMap_def, List.map_map, List.map_map]
    congr 1
    exact List.map_congr_left fun i hi => by
      show (ar K (F i)).toList = (ar K (G i)).toList
      rw [ar_ext fun j hj => he i j (List.mem_range.1 hi) hj]
  unfold OwnF OwnX at *
  rw [← e, lsF_len]
  rw [lsF_len] at h
  exact h
theorem OwnF.range (h : OwnF E K w B (.slice (some ⟨g, 0, none⟩) n cap) n F) (hi : i < n) : w.rangeAt g (i * K) (arL K (F i)) := by
  obtain ⟨A, c, e, sl⟩ := OwnX.sli (arL_len K) h
  simp only [Value.slice.injEq] at e
  obtain ⟨rfl, _, _⟩ := e
  obtain ⟨b, o, e2, _, _, hr⟩ := sl.some (lsF_get hi)
  have hb : ∃ b', OwnX E K (arL K) w B (.slice (some ⟨g, 0, none⟩) n cap) (lsF n F) ∧ b' = g := ⟨g, h, rfl⟩
  simp only [Option.some.injEq, Addr.mk.injEq, and_true] at e2
  obtain ⟨rfl, rfl⟩ := e2
  rwa [Nat.zero_add] at hr
theorem OwnF.lt (h : OwnF E K w B (.slice (some ⟨g, 0, none⟩) n cap) n F) : g < w.heap.size ∧ B ≤ g := ⟨(h.own g rfl).2, (h.own g rfl).1⟩
theorem OwnF.obj (h : OwnF E K w B (.slice (some ⟨g, 0, none⟩) n cap) n F) : ∃ cur, w.heap[g]? = some (.cells cur E (0, 0)) ∧ cur.size = cap * K ∧ n ≤ cap ∧ cap ≤ maxLen := by
  rcases h.2 with ⟨e, _⟩ | ⟨g2, cap2, cur, e, hB, hg, hnc, hcm, hcs, ht⟩
  · cases e
  · simp only [Value.slice.injEq, Option.some.injEq, Addr.mk.injEq, and_true] at e
    obtain ⟨rfl, _, rfl⟩ := e
    rw [lsF_len] at hnc
    exact ⟨cur, hg, hcs, hnc, hcm⟩
theorem OwnX.raise {α : Type} {k : Nat} {en : α → List Value} {l : List α} (h : OwnX E k en w 0 v l) (hB : ∀ b, v.ownBlock = some b → B ≤ b) : OwnX E k en w B v l := by
  refine ⟨h.1, ?_⟩
  rcases h.2 with hn | ⟨g, cap, cur, rfl, hb, hgg, rest⟩
  · exact .inl hn
  · exact .inr ⟨g, cap, cur, rfl, hB g rfl, hgg, rest⟩
/-- One row stored. -/
theorem OwnF.put (hK : 0 < K) (h : OwnF E K w B (.slice (some ⟨g, 0, none⟩) n cap) n F) (hi : i < n) (f : Nat → Nat) :
    OwnF E K (w.setCells g (i * K) (arL K f)) B (.slice (some ⟨g, 0, none⟩) n cap) n (upF F i f) ∧ Turn (fun b => b = g) w (w.setCells g (i * K) (arL K f)) ∧ w.there g (i * K) K := by
  obtain ⟨cur, h1, h2, h3, h4⟩ := h.obj
  have hik : i * K + K ≤ cap * K := by
    have := Nat.mul_le_mul_right K (show i + 1 ≤ cap by omega)
    rw [Nat.add_mul] at this; omega
  have hth : w.there g (i * K) K := there_of h1 (by omega)
  refine ⟨?_, turn_setCells _ _ _, hth⟩
  obtain ⟨cur', q1, q2⟩ := cells_setCells (arL K f) (i * K) w ⟨cur, h1, h2⟩
  have ho : OwnX E K (arL K) (w.setCells g (i * K) (arL K f)) 0 (.slice (some ⟨g, 0, none⟩) (lsF n (upF F i f)).length cap) (lsF n (upF F i f)) := by
    refine own_of_ranges (arL_len K) hK q1 q2 (by rw [lsF_len]; exact h3) h4 fun q x hx => ?_
    obtain ⟨hq, rfl⟩ := lsF_some hx
    unfold upF
    by_cases e : q = i
    · subst e
      rw [if_pos rfl]
      exact World.rangeAt_setCells_same w g (q * K) (arL K f) (by rw [arL_len]; exact hth)
    · rw [if_neg e]
      refine World.rangeAt_setCells_apart (h.range hq) g (i * K) (arL K f) (.inr ?_)
      rw [arL_len, arL_len]
      rcases Nat.lt_or_ge q i with hlt | hge
      · left
        have := Nat.mul_le_mul_right K (show q + 1 ≤ i by omega)
        rw [Nat.add_mul] at this; omega
      · right
        have := Nat.mul_le_mul_right K (show i + 1 ≤ q by omega)
        rw [Nat.add_mul] at this; omega
  rw [lsF_len] at ho
  exact OwnX.raise ho fun b e => by cases e; exact h.lt.2
end
section
variable {ops : Array Oper} {Q : Exit → Act → World → Prop} {a : Act} {w : World} {rest : List Oper} {dst : Option Tmp} {ty E L : TypeId} {pos : String} {after : Array Edge} {x y s : Operand} {K B n m cap g i o : Nat} {F G : Nat → Nat → Nat} {f : Nat → Nat} {v : Value} {S : Nat → Prop} {A : Option Addr}
/-- One row stored, at the end of a region or in the text's order. -/
theorem wstF (hT : ArT E K) (hK : 0 < K) (hx : a.eval x = .pointer (some ⟨g, o, none⟩)) (hy : a.eval y = .agg (ar K f)) (ho : o = i * K) (h : OwnF E K w B (.slice (some ⟨g, 0, none⟩) n cap) n F) (hi : i < n)
    (hk : ∀ w', OwnF E K w' B (.slice (some ⟨g, 0, none⟩) n cap) n (upF F i f) → Turn (fun b => b = g) w w' → wpList Tryd.prog ops Q rest (a.put dst undef) w') :
    wpList Tryd.prog ops Q (⟨dst, .store E x y, ty, pos, after, none⟩ :: rest) a w := by
  subst ho
  obtain ⟨h1, h2, h3⟩ := OwnF.put hK h hi f
  exact wpList_store_mid rfl E x y rfl g (i * K) (ar K f) hx hy (by rw [size_ar]; exact h3) (hT.size.trans (by rw [size_ar])) ar_one (hk _ h1 h2)
/-- A list of n rows of zeros made. -/
theorem run_mkF (hE : EltX E K (arL K)) (hZ : ∀ w, (zeroValue E).run Tryd.prog w = .ok (.agg (ar K fun _ => 0)) w) (hu : Tryd.prog.underlying L = some (.slice E)) (hK : K ≤ 1000) (hn : n ≤ 16000) (w : World) :
    ∃ w', (Instr.makeSlice L (.int .i64 (n : Int)) (.int .i64 (n : Int))).run Tryd.prog w = .ok (.slice (some ⟨w.heap.size, 0, none⟩) n n) w' ∧ OwnF E K w' w.heap.size (.slice (some ⟨w.heap.size, 0, none⟩) n n) n (fun _ _ => 0) ∧ Below w.heap.size w w' := by
  obtain ⟨i, z, hi, hz, h1, h2, h3⟩ := hE.info
  have hzz : z = .agg (ar K fun _ => 0) := by
    have := hZ w
    simp [zeroValue, typeInfo, hi, hz] at this
    exact this
  obtain ⟨w', hr, ho, hg⟩ := run_makeSlice_full (P := Tryd.prog) w w.heap.size L E i z K hu hi hz h1 .i64 .i64 n (Nat.le_trans (Nat.mul_le_mul hn hK) (by omega)) (Nat.le_trans (Nat.mul_le_mul h2 hn) (by omega)) (by unfold maxLen; omega) (Nat.le_refl _)
  refine ⟨w', hr, ?_, ⟨hg.os, hg.tape, hg.output, hg.size, fun k hk => hg.block k hk (by simp)⟩⟩
  have e : (madeCells z.cells (n * K)).toList = (lsF n fun _ _ => 0).flatMap (arL K) := by
    subst hzz
    apply List.ext_getElem?
    intro j
    have hl : ((lsF n fun _ _ => 0).flatMap (arL K)).length = n * K := by rw [flat_len (arL_len K), lsF_len]
    by_cases hj : j < n * K
    · have hKp := hE.pos
      have hq : j / K < n := Nat.div_lt_of_lt_mul (by rw [Nat.mul_comm]; exact hj)
      have h4 := flat_at (arL_len K) (lsF n fun _ _ => 0) (j / K) (j % K) _ (lsF_get hq) (Nat.mod_lt _ hKp)
      rw [show j / K * K + j % K = j by rw [Nat.mul_comm]; exact Nat.div_add_mod j K] at h4
      rw [h4, Array.getElem?_toList, Array.getElem?_toList, get_ar (Nat.mod_lt _ hKp)]
      have h5 : (ar K fun _ => 0).size = K := size_ar
      have h6 : j % K < (ar K fun _ => 0).size := by rw [h5]; exact Nat.mod_lt _ hKp
      unfold madeCells
      rw [Array.getElem?_map, Array.getElem?_range, if_pos hj]
      show some ((ar K fun _ => 0)[j % (ar K fun _ => 0).size]!) = _
      rw [h5, getElem!_pos (ar K fun _ => 0) (j % K) h6]
      have h7 := get_ar (n := K) (f := fun _ => 0) (Nat.mod_lt j hKp)
      rw [Array.getElem?_eq_getElem h6] at h7
      exact h7
    · rw [List.getElem?_eq_none (by rw [Array.length_toList, size_madeCells]; omega), List.getElem?_eq_none (by omega)]
  rw [e] at ho
  unfold OwnF OwnX
  rw [lsF_len]
  exact ho
theorem wmkF {x y : Operand} {m : Int} (hE : EltX E K (arL K)) (hZ : ∀ w, (zeroValue E).run Tryd.prog w = .ok (.agg (ar K fun _ => 0)) w) (hu : Tryd.prog.underlying L = some (.slice E)) (hK : K ≤ 1000) (hn : n ≤ 16000) (hx : a.eval x = .int .i64 m) (hy : a.eval y = .int .i64 m) (hm : m = (n : Int))
    (hk : ∀ w', OwnF E K w' w.heap.size (.slice (some ⟨w.heap.size, 0, none⟩) n n) n (fun _ _ => 0) → Below w.heap.size w w' → wpList Tryd.prog ops Q rest (a.put dst (.slice (some ⟨w.heap.size, 0, none⟩) n n)) w') :
    wpList Tryd.prog ops Q (⟨dst, .makeSlice L x y, ty, pos, after, none⟩ :: rest) a w := by
  subst hm
  obtain ⟨w', hr, h1, h2⟩ := run_mkF hE hZ hu hK hn w
  refine wpList_plain rfl fun K' hK' => ?_
  unfold Oper.wp execOp
  simp only [Sem.run_bind, hx, hy, hr, Result.andThen_ok, Sem.run_pure]
  exact hK' _ _ (hk w' h1 h2)
theorem gE_mkF {x y : Operand} {m : Int} {gd : Option (Nat × Bool)} {R : Value → World → Prop} (hE : EltX E K (arL K)) (hZ : ∀ w, (zeroValue E).run Tryd.prog w = .ok (.agg (ar K fun _ => 0)) w) (hu : Tryd.prog.underlying L = some (.slice E)) (hK : K ≤ 1000) (hn : n ≤ 16000) (hx : a.eval x = .int .i64 m) (hy : a.eval y = .int .i64 m) (hm : m = (n : Int))
    (hk : ∀ w', OwnF E K w' w.heap.size (.slice (some ⟨w.heap.size, 0, none⟩) n n) n (fun _ _ => 0) → Below w.heap.size w w' → R (.slice (some ⟨w.heap.size, 0, none⟩) n n) w') :
    GivesE Tryd.prog ⟨dst, .makeSlice L x y, ty, pos, after, gd⟩ a w R := by
  subst hm
  obtain ⟨w', hr, h1, h2⟩ := run_mkF hE hZ hu hK hn w
  unfold GivesE execOp
  simp only [Sem.run_bind, hx, hy, hr, Result.andThen_ok, Sem.run_pure]
  exact hk w' h1 h2
end
end RwP
end Go.Proofs.YtdmnhpgafbcehaaDoor
set_option maxRecDepth 100000
namespace Go.Proofs.YtdmnhpgafbcehaaDoor
open Go.ChangeShapes Go.WideShapes Go.ChangeAt Go.RowKit
attribute [local go_sem] Gives
namespace TrM
open TgP RwP
theorem eltT : EltX 36 32 (arL 32) := ⟨by omega, arL_len 32, fun f => ar_one' f, elt_info (by kernel_rfl) (by kernel_rfl) (by kernel_rfl)⟩
theorem eltS : EltX 50 64 (arL 64) := ⟨by omega, arL_len 64, fun f => ar_one' f, elt_info (by kernel_rfl) (by kernel_rfl) (by kernel_rfl)⟩
def trR (k : Nat → Nat) (h : Nat) (v : Value) : Array Value := row 34 fun j => if j < 32 then .int .u8 (k j : Nat) else if j = 32 then .int .i64 (h : Nat) else v
section
variable {w : World} {g : Nat} {t : TypeId} {k : Nat → Nat} {h : Nat} {v : Value}
theorem trR_key (hb : Blk w g t (trR k h v)) : w.rangeAt g 0 (ar 32 k).toList := fun j u hu => by
  obtain ⟨hj, rfl⟩ := ar_list_get hu
  rw [hb.cell, Nat.zero_add]
  unfold trR
  rw [get_row_lt (by omega), if_pos hj]
theorem trR_h (hb : Blk w g t (trR k h v)) : w.cell? ⟨g, 32, none⟩ = some (.int .i64 (h : Nat)) := by
  rw [hb.cell]; unfold trR; rw [get_row_lt (by omega)]; rfl
theorem trR_v (hb : Blk w g t (trR k h v)) : w.cell? ⟨g, 33, none⟩ = some v := by
  rw [hb.cell]; unfold trR; rw [get_row_lt (by omega)]; rfl
end
/-- The document's tree. -/
structure RefT (w : World) (g gl cl : Nat) (t : Tr) : Prop where
  blk : Blk w g 78 (trR t.k t.h (.slice (some ⟨gl, 0, none⟩) t.n cl))
  own : OwnF 36 32 w 0 (.slice (some ⟨gl, 0, none⟩) t.n cl) t.n t.L
  h1 : 1 ≤ t.h
  h2 : t.h ≤ 12
  k256 : ∀ i, t.k i < 256
  L256 : ∀ i j, t.L i j < 256
theorem tgF_256 {k : Nat → Nat} {n : Nat} {L : Nat → Nat → Nat} (hL : ∀ i j, L i j < 256) : ∀ f j i, tgF k n L f j i < 256
  | 0, j, i => hL _ _
  | f + 1, j, i => by
    unfold tgF
    split
    · exact hL _ _
    · unfold ndT tagN
      exact HmM.tag_256 _ _ i
theorem RefT.turn {w w' : World} {g gl cl : Nat} {t : Tr} {S : Nat → Prop} (H : RefT w g gl cl t) (ht : Turn S w w') (hg : ¬ S g) (hl : ¬ S gl) : RefT w' g gl cl t :=
  ⟨H.blk.turn ht hg, H.own.turn ht fun b e => by cases e; exact hl, H.h1, H.h2, H.k256, H.L256⟩
theorem RefT.lt {w : World} {g gl cl : Nat} {t : Tr} (H : RefT w g gl cl t) : g < w.heap.size ∧ gl < w.heap.size := ⟨H.blk.lt, H.own.lt.1⟩
theorem RefT.below {w w' : World} {g gl cl : Nat} {t : Tr} (H : RefT w g gl cl t) (hb : Below w.heap.size w w') : RefT w' g gl cl t :=
  H.turn (Turn.of_below hb) (by have := H.lt.1; omega) (by have := H.lt.2; omega)
/-- All tags, behind i leaves. -/
def leavesTo (t : Tr) (i m : Nat) : Nat → Nat := if t.n ≤ m ∧ m < t.n + i then t.L (m - t.n) else fun _ => 0
/-- All tags from the j-th on. -/
def tagsFrom (t : Tr) (j m : Nat) : Nat → Nat := if j ≤ m then t.tg m else fun _ => 0
theorem n2 (t : Tr) (h : t.h ≤ 12) : t.n ≤ 4096 := pow_le h
set_option maxHeartbeats 800000 in
set_option maxRecDepth 100000 in
theorem rall_any (g gl cl : Nat) (t : Tr) (w : World) (H : RefT w g gl cl t) :
    Calls Tryd.prog 36 #[.pointer (some ⟨g, 0, none⟩)] w fun e w' => ∃ gn cn, e = .returned (.slice (some ⟨gn, 0, none⟩) (2 * t.n) cn) ∧ OwnF 36 32 w' w.heap.size (.slice (some ⟨gn, 0, none⟩) (2 * t.n) cn) (2 * t.n) (tagsFrom t 1) ∧ Below w.heap.size w w' := by
  have HP := hid fun w => rpow_any t.h H.h2 w
  have HN := n2 t H.h2
  have HN1 := t.n_pos
  have HH := hid H
  rw [show 2 ^ t.h = t.n from rfl] at HP
  obtain ⟨n, hn⟩ : ∃ n, n = t.n := ⟨_, rfl⟩
  have NE := hid hn
  rw [← hn] at HP HN HN1 ⊢
  clear H hn
  have c1 := trR_h HH.out.blk
  have c2 := trR_v HH.out.blk
  go_enter Tryd.func36, Tryd.ntmps36
  go_wp2_with fail
  refine (HP.out w).mono ?_
  rintro e w' ⟨rfl, rfl⟩
  go_upto_region 2 with fail
  go_upto_region 3 with ((with_reducible apply wmkF (n := 2 * n) eltT tT.zero Tryd.underlying24 (by omega) (by omega)); rfl; rfl; (rw [Int.natCast_mul]; rfl); intro w2 o2 b2)
  have O2 := hid (o2.ext (G := leavesTo t 0) fun i j _ _ => by unfold leavesTo; rw [if_neg (by omega)])
  have B2 := hid b2
  clear o2 b2
  obtain ⟨gn, hgn⟩ : ∃ gn, gn = w.heap.size := ⟨_, rfl⟩
  have hgg : g < gn := by have := HH.out.lt.1; omega
  have hgl : gl < gn := by have := HH.out.lt.2; omega
  rw [← hgn] at O2 B2 ⊢
  have HGN := hid hgn
  clear hgn
  obtain ⟨N2, hN2⟩ : ∃ N2, N2 = 2 * n := ⟨_, rfl⟩
  have hA : N2 ≤ 2 * n := by omega
  have hB : 2 * n ≤ N2 := by omega
  have HN2 := hid hN2
  rw [← hN2] at O2 ⊢
  clear hN2
  go_wp2_with fail
  go_loopw [5] (fun v wr => ∃ i : Nat, i ≤ n ∧ v = .int .i64 i ∧ Hid (OwnF 36 32 wr gn (.slice (some ⟨gn, 0, none⟩) N2 N2) N2 (leavesTo t i)) ∧ Hid (Below gn w wr)) (fun v _ => n - (intOf v).toNat)
  case atStart => exact ⟨0, by omega, rfl, O2, B2⟩
  case round =>
    clear O2 B2
    obtain ⟨i, hi, rfl, ho, hb⟩ := hrel
    have hwr := HH.out.below (w' := wr) (by rw [← HGN.out]; exact hb.out)
    by_cases hlt : i < n
    · have ti : (i : Int) < (n : Int) := by omega
      have c3 := trR_v hwr.blk
      rw [← NE.out] at c3
      have r1 := hid (hwr.own.range (i := i) (by rw [← NE.out]; exact hlt))
      have hst := hid ho.out
      go_wp2_with (first | ((with_reducible apply ldAm tT); rfl; exact r1.out) | ((with_reducible apply wstF (i := n + i) tT (by omega)); rfl; rfl; omega; exact ho.out; omega; intro w4 o4 t4))
      go_roundw
      case rel => exact ⟨i + 1, by omega, by go_num, hid (o4.ext fun q j _ _ => by
          unfold upF leavesTo
          rw [← NE.out]
          by_cases e : q = n + i
          · rw [if_pos e, if_pos ⟨by omega, by omega⟩, show q - n = i by omega]
          · rw [if_neg e]
            by_cases e2 : n ≤ q ∧ q < n + i
            · rw [if_pos e2, if_pos ⟨by omega, by omega⟩]
            · rw [if_neg e2, if_neg (by omega)]), hid (hb.out.trans (t4.below (by have := hst.out.lt.1; omega) fun k e => by omega))⟩
      case measure => simp [intOf] <;> omega
    · obtain rfl : i = n := by omega
      obtain ⟨wa, rfl⟩ : ∃ x, x = wr := ⟨_, rfl⟩
      have O3 := hid (ho.out.ext (G := tagsFrom t i) fun q j hq _ => by
        unfold leavesTo tagsFrom
        rw [← NE.out]
        by_cases e : i ≤ q
        · rw [if_pos ⟨e, by omega⟩, if_pos e, Tr.tg_leaf (by rw [← NE.out]; exact e), ← NE.out]
        · rw [if_neg (by omega), if_neg e])
      have B3 := hid hb.out
      clear ho hb
      have tn : (1 : Int) ≤ (i : Int) := by omega
      obtain ⟨m, hm⟩ : ∃ m, m = i - 1 := ⟨_, rfl⟩
      have hm1 : i ≤ m + 1 := by omega
      have hm2 : m + 1 ≤ i := by omega
      have t7 : (i : Int) - 1 = (m : Int) := by omega
      have O4 := hid (show OwnF 36 32 wa gn (.slice (some ⟨gn, 0, none⟩) N2 N2) N2 (tagsFrom t (m + 1)) by rw [show m + 1 = i by omega]; exact O3.out)
      clear hm O3
      have Z4 := hid fun (wr : World) (hb : Below gn w wr) => HH.out.below (w' := wr) (by rw [← HGN.out]; exact hb)
      have KK := hid HH.out.k256
      have TG := hid fun q (h1 : 1 ≤ q) (h2 : q < i) => Tr.tg_node (t := t) h1 (by rw [← NE.out]; exact h2)
      have HSZ := hid (fun q => tgF_256 (k := t.k) (n := t.n) HH.out.L256 t.h q)
      clear HH tn c1 c2
      go_wp2_with fail
      clear t7
      generalize (i : Int) = i5
      go_loopw [6] (fun v w6 => ∃ j : Nat, j < i ∧ v = .int .i64 j ∧ Hid (OwnF 36 32 w6 gn (.slice (some ⟨gn, 0, none⟩) N2 N2) N2 (tagsFrom t (j + 1))) ∧ Hid (Below gn w w6)) (fun v _ => (intOf v).toNat)
      case atStart => exact ⟨m, by omega, rfl, O4, B3⟩
      case round =>
        clear O4 B3
        obtain ⟨j, hj, rfl, ho, hb⟩ := hrel
        by_cases hlt : 1 ≤ j
        · have ti : (1 : Int) ≤ (j : Int) := by omega
          have z6 := hid (Z4.out wr hb.out)
          have rk := hid (trR_key z6.out.blk)
          obtain ⟨J2, hJ2⟩ : ∃ J, J = 2 * j := ⟨_, rfl⟩
          obtain ⟨J3, hJ3⟩ : ∃ J, J = 2 * j + 1 := ⟨_, rfl⟩
          have w2 := hid (show IntKind.i64.wrap (2 * (j : Int)) = (J2 : Int) from wr_nat (by omega) (by omega))
          have w3 := hid (show IntKind.i64.wrap ((J2 : Int) + 1) = (J3 : Int) from wr_nat (by omega) (by omega))
          have l2 : J2 < N2 := by omega
          have l3 : J3 < N2 := by omega
          have l1 : j < N2 := by omega
          have r1 := hid (ho.out.range (i := J2) (by omega))
          have r2 := hid (ho.out.range (i := J3) (by omega))
          have e1 : tagsFrom t (j + 1) J2 = t.tg (2 * j) := by rw [← hJ2]; unfold tagsFrom; rw [if_pos (by omega)]
          have e2 : tagsFrom t (j + 1) J3 = t.tg (2 * j + 1) := by rw [← hJ3]; unfold tagsFrom; rw [if_pos (by omega)]
          clear hJ2 hJ3
          rw [e1] at r1
          rw [e2] at r2
          have hgl2 := z6.out.lt.1
          have hgn2 := ho.out.lt.1
          go_upto_region 10 with fail
          obtain ⟨F1, hF1⟩ : ∃ F, F = t.tg (2 * j) := ⟨_, rfl⟩
          obtain ⟨F2, hF2⟩ : ∃ F, F = t.tg (2 * j + 1) := ⟨_, rfl⟩
          have TE := hid (TG.out j hlt hj)
          rw [Tr.nd, ← hF1, ← hF2] at TE
          rw [← hF1] at r1
          rw [← hF2] at r2
          have HJ := hid (show ∀ i, joined F1 F2 i < 256 from fun i => by
            unfold joined
            split
            · rw [hF1]; exact HSZ.out _ _
            · rw [hF2]; exact HSZ.out _ _)
          clear hF1 hF2 e1 e2
          refine wp_region_tail (C := fun w' => Below wr.heap.size wr w') 21 (by kernel_rfl) (by kernel_rfl) (by kernel_rfl) (Below.refl _ _).drew ?_
          simp only [List.take_succ_cons, List.take_zero, List.drop_succ_cons, List.drop_zero]
          apply wpK_val
          · rfl
          · intro w' hw'
            go_simp
            first | exact rfl | exact ⟨rfl, hw'⟩
          simp only [Act.put, List.setIfInBounds_toArray, List.set_cons_succ, List.set_cons_zero]
          apply wpK_val
          · rfl
          · intro w' hw'
            go_simp
            first | exact rfl | exact ⟨rfl, hw'⟩
          simp only [Act.put, List.setIfInBounds_toArray, List.set_cons_succ, List.set_cons_zero]
          apply wpK_val
          · rfl
          · intro w' hw'
            go_simp
            first | exact rfl | exact ⟨rfl, hw'⟩
          simp only [Act.put, List.setIfInBounds_toArray, List.set_cons_succ, List.set_cons_zero]
          apply wpK_val
          · rfl
          · intro w' hw'
            go_simp
            first | exact rfl | exact ⟨rfl, hw'⟩
          simp only [Act.put, List.setIfInBounds_toArray, List.set_cons_succ, List.set_cons_zero]
          apply wpK_val
          · rfl
          · intro w' hw'
            go_simp
            first | exact rfl | exact ⟨rfl, hw'⟩
          simp only [Act.put, List.setIfInBounds_toArray, List.set_cons_succ, List.set_cons_zero]
          apply kldA tK
          · rfl
          · rfl
          · exact fun w' hw' => fun j v hj => (hw'.cell (p := ⟨g, 0 + j, none⟩) hgl2).trans (rk.out j v hj)
          simp only [Act.put, List.setIfInBounds_toArray, List.set_cons_succ, List.set_cons_zero]
          apply wpK_val
          · rfl
          · intro w' hw'
            go_simp
            first | exact rfl | exact ⟨rfl, hw'⟩
          simp only [Act.put, List.setIfInBounds_toArray, List.set_cons_succ, List.set_cons_zero]
          apply wpK_val
          · rfl
          · intro w' hw'
            go_simp
            first | exact rfl | exact ⟨rfl, hw'⟩
          simp only [Act.put, List.setIfInBounds_toArray, List.set_cons_succ, List.set_cons_zero]
          apply wpK_val
          · rfl
          · intro w' hw'
            go_simp
            first | exact rfl | exact ⟨rfl, hw'⟩
          simp only [Act.put, List.setIfInBounds_toArray, List.set_cons_succ, List.set_cons_zero]
          apply wpK_val
          · rfl
          · intro w' hw'
            have w2 : _ := w2.out
            go_simp
            first | exact rfl | exact ⟨rfl, hw'⟩
          simp only [Act.put, List.setIfInBounds_toArray, List.set_cons_succ, List.set_cons_zero]
          apply wpK_val
          · rfl
          · intro w' hw'
            have l2 : J2 < N2 := l2
            go_simp
            first | exact rfl | exact ⟨rfl, hw'⟩
          simp only [Act.put, List.setIfInBounds_toArray, List.set_cons_succ, List.set_cons_zero]
          apply kldA tT
          · rfl
          · rfl
          · exact fun w' hw' => fun q v hq => (hw'.cell (p := ⟨gn, J2 * 32 + q, none⟩) hgn2).trans (r1.out q v hq)
          simp only [Act.put, List.setIfInBounds_toArray, List.set_cons_succ, List.set_cons_zero]
          apply wpK_val
          · rfl
          · intro w' hw'
            go_simp
            first | exact rfl | exact ⟨rfl, hw'⟩
          simp only [Act.put, List.setIfInBounds_toArray, List.set_cons_succ, List.set_cons_zero]
          apply wpK_val
          · rfl
          · intro w' hw'
            go_simp
            first | exact rfl | exact ⟨rfl, hw'⟩
          simp only [Act.put, List.setIfInBounds_toArray, List.set_cons_succ, List.set_cons_zero]
          apply wpK_val
          · rfl
          · intro w' hw'
            have w2 : _ := w2.out
            go_simp
            first | exact rfl | exact ⟨rfl, hw'⟩
          simp only [Act.put, List.setIfInBounds_toArray, List.set_cons_succ, List.set_cons_zero]
          apply wpK_val
          · rfl
          · intro w' hw'
            have w3 : _ := w3.out
            go_simp
            first | exact rfl | exact ⟨rfl, hw'⟩
          simp only [Act.put, List.setIfInBounds_toArray, List.set_cons_succ, List.set_cons_zero]
          apply wpK_val
          · rfl
          · intro w' hw'
            have l3 : J3 < N2 := l3
            go_simp
            first | exact rfl | exact ⟨rfl, hw'⟩
          simp only [Act.put, List.setIfInBounds_toArray, List.set_cons_succ, List.set_cons_zero]
          apply kldA tT
          · rfl
          · rfl
          · exact fun w' hw' => fun q v hq => (hw'.cell (p := ⟨gn, J3 * 32 + q, none⟩) hgn2).trans (r2.out q v hq)
          simp only [Act.put, List.setIfInBounds_toArray, List.set_cons_succ, List.set_cons_zero]
          apply wpK_val
          · rfl
          · intro w' hw'
            go_simp
            exact (rjoin_any F1 F2 w').mono fun e w5 h => ⟨h.1, hw'.trans (h.2.mono hw'.size)⟩
          simp only [Act.put, List.setIfInBounds_toArray, List.set_cons_succ, List.set_cons_zero]
          apply wpK_val
          · rfl
          · intro w' hw'
            go_simp
            exact (rnode_any t.k KK.out (j : Int) (joined F1 F2) HJ.out w').mono fun e w5 h => ⟨h.1, hw'.trans (h.2.mono hw'.size)⟩
          simp only [Act.put, List.setIfInBounds_toArray, List.set_cons_succ, List.set_cons_zero]
          apply wpK_val
          · rfl
          · intro w' hw'
            have l1 : j < N2 := l1
            go_simp
            first | exact rfl | exact ⟨rfl, hw'⟩
          simp only [Act.put, List.setIfInBounds_toArray, List.set_cons_succ, List.set_cons_zero]
          refine wpK_nil fun w7 h7 => ?_
          obtain ⟨F3, hF3⟩ : ∃ F, F = HmM.tag (HmM.dl t.k) (BytM.rowB 78 [BytM.dig 8 (TgP.bits (j : Int)), ls 64 (joined F1 F2)]) := ⟨_, rfl⟩
          rw [← hF3]
          have TF := hid (show t.tg j = F3 by rw [TE.out, hF3]; rfl)
          have o7 := hid (ho.out.below h7 (Nat.le_refl _))
          have b7 := hid (hb.out.trans (h7.mono (by omega)))
          clear hF3 r1 r2 rk z6 ho hb w2 w3 HJ TE h7
          go_wp2_with ((with_reducible apply wstF (i := j) tT (by omega)); rfl; rfl; rfl; exact o7.out; omega; intro w8 o8 t8)
          go_roundw
          case rel => exact ⟨j - 1, by omega, by go_num, hid (o8.ext fun q z _ _ => by
              unfold upF tagsFrom
              rw [show j - 1 + 1 = j by omega]
              by_cases e : q = j
              · rw [if_pos e, if_pos (by omega), e, TF.out]
              · rw [if_neg e]
                by_cases e2 : j + 1 ≤ q
                · rw [if_pos e2, if_pos (by omega)]
                · rw [if_neg e2, if_neg (by omega)]), hid (b7.out.trans (t8.below (by have := (OwnF.lt o7.out).1; omega) fun k e => by omega))⟩
          case measure => simp [intOf] <;> omega
        · have O9 := hid (ho.out.ext (G := tagsFrom t 1) fun q z _ _ => by rw [show j + 1 = 1 by omega])
          have t9 : ¬ (1 : Int) ≤ (j : Int) := by omega
          have HBE := hid hb.out
          clear ho hb
          go_wp2_with fail
          go_ret
          refine ⟨gn, N2, ?_, ?_, ?_⟩
          · rw [← HN2.out]; rfl
          · rw [← HN2.out, ← HGN.out]; exact O9.out
          · rw [← HGN.out]; exact HBE.out
end TrM
end Go.Proofs.YtdmnhpgafbcehaaDoor
set_option maxRecDepth 100000
namespace Go.Proofs.YtdmnhpgafbcehaaDoor
open Go.ChangeShapes Go.WideShapes Go.ChangeAt Go.RowKit
attribute [local go_sem] Gives GivesE
section
variable {ops : Array Oper} {Q : Exit → Act → World → Prop} {a : Act} {w : World} {rest : List Oper} {dst : Option Tmp} {ty r : TypeId} {pos : String} {after : Array Edge} {x y : Operand} {f g : Nat → Nat} {T : TypeId} {n : Nat}
theorem bldZ (hz : Tryd.prog.built T [] = some (ar n fun _ => 0)) (hk : wpList Tryd.prog ops Q rest (a.put dst (.agg (ar n fun _ => 0))) w) :
    wpList Tryd.prog ops Q (⟨dst, .build T #[], ty, pos, after, none⟩ :: rest) a w := by
  have hr : (Instr.build T #[]).run Tryd.prog w = .ok (.agg (ar n fun _ => 0)) w := run_build w _ _ _ hz
  refine wpList_plain rfl fun K hK => ?_
  unfold Oper.wp execOp
  simp [hr, Result.andThen]
  exact hK _ _ hk
theorem ret_art {t : TypeId} {h : Nat} {fn : Func} {R : Ending → World → Prop} {p q : Tmp} {v : Value} (hT : ArT T n) (hr : fn.results = #[.cell p T, .tmp q]) (hp : a.tmps.getD p undef = .pointer (some ⟨h, 0, none⟩)) (hq : a.tmps.getD q undef = v)
    (hdf : a.defers = []) (hb : Blk w h t (ar n f)) (hR : R (.returned (.tuple #[.agg (ar n f), v])) w) : bodyPost Tryd.prog fn R .ret a w := by
  refine bodyPost_ret ?_ hdf hR
  have hp' : a.tmps[p]?.getD undef = .pointer (some ⟨h, 0, none⟩) := by simpa using hp
  have hq' : a.tmps[q]?.getD undef = v := by simpa using hq
  simp [results, hr, hp', hq', asAddr, run_ar_var hT hb]
end
section
variable {ops : Array Oper} {Q : Exit → Act → World → Prop} {a : Act} {w : World} {rest : List Oper} {dst : Option Tmp} {ty T : TypeId} {pos : String} {after : Array Edge} {gd : Option (Nat × Bool)} {R : Value → World → Prop} {cs : Array Value} {ps : Array (Nat × Operand)} {vs : Array (Nat × Value)}
/-- A literal built. -/
theorem wbl (hr : ∀ w, (Instr.build T vs).run Tryd.prog w = .ok (.agg cs) w) (hm : ps.map (fun (i, x) => (i, a.eval x)) = vs) (h : wpList Tryd.prog ops Q rest (a.put dst (.agg cs)) w) :
    wpList Tryd.prog ops Q (⟨dst, .build T ps, ty, pos, after, none⟩ :: rest) a w := by
  refine wpList_plain rfl fun K hK => ?_
  unfold Oper.wp execOp
  simp only [Sem.run_bind, hm, hr, Result.andThen_ok, Sem.run_pure]
  exact hK _ _ h
theorem gE_bl (hr : ∀ w, (Instr.build T vs).run Tryd.prog w = .ok (.agg cs) w) (hm : ps.map (fun (i, x) => (i, a.eval x)) = vs) (hR : R (.agg cs) w) : GivesE Tryd.prog ⟨dst, .build T ps, ty, pos, after, gd⟩ a w R := by
  unfold GivesE
  simp only [execOp, Sem.run_bind, hm, hr, Result.andThen_ok, Sem.run_pure]
  exact hR
theorem gE_bx {x : Operand} (hx : a.eval x = .agg cs) (hR : R (.pointer (some ⟨w.heap.size, 0, none⟩)) (w.alloc (.cells cs T))) : GivesE Tryd.prog ⟨dst, .box T x, ty, pos, after, gd⟩ a w R := by
  unfold GivesE
  simp [execOp, hx, Instr.box, newVar, newRow, Value.cells, Sem.run_bind]
  exact hR
end
section
variable {ops : Array Oper} {Q : Exit → Act → World → Prop} {a : Act} {w : World} {rest : List Oper} {dst : Option Tmp} {ty r T : TypeId} {pos : String} {after : Array Edge} {x y : Operand} {g o n : Nat} {f h' : Nat → Nat} {gd : Option (Nat × Bool)}
/-- Two rows of bytes compared, behind a guard. -/
theorem weqAq (b : Bool) (hT : Tryd.prog.underlying T = some (.array n 5)) (hg : Tryd.prog.eqGuardType Tryd.prog.depth T = false) (hw : Region.wanted ⟨dst, .binOp .eql T x y r, ty, pos, after, gd⟩ (yielded ops a.tmps) = true) (hx : a.eval x = .agg (ar n f)) (hy : a.eval y = .agg (ar n h')) (hb : eqA n f h' = b)
    (h : wpList Tryd.prog ops Q rest (a.put dst (.bool b)) w) : wpList Tryd.prog ops Q (⟨dst, .binOp .eql T x y r, ty, pos, after, gd⟩ :: rest) a w := by
  have h1 : (eqGuard .eql T x y (.agg (ar n f)) (.agg (ar n h'))).run Tryd.prog w = .ok () w := by
    simp [eqGuard, hg, go_sem]
  have hgv : Gives Tryd.prog ⟨dst, .binOp .eql T x y r, ty, pos, after, gd⟩ a w (.bool b) fun w' => w' = w := gives_value (w' := w) (by simp only [execOp, hx, hy, Sem.run_bind, h1, run_eql_ar hT, Result.andThen_ok, Sem.run_pure, hb]) rfl
  rw [wpList, if_pos hw]
  exact .inl (wp_of_gives hgv fun w' e => by subst e; exact h)
end
end Go.Proofs.YtdmnhpgafbcehaaDoor
set_option maxRecDepth 100000
namespace Go.Proofs.YtdmnhpgafbcehaaDoor
open Go.ChangeShapes Go.WideShapes Go.ChangeAt Go.RowKit
namespace TgP
theorem uT : Tryd.prog.underlying 36 = some (.array 32 5) := Tryd.underlying36
theorem uS : Tryd.prog.underlying 50 = some (.array 64 5) := Tryd.underlying50
theorem eqgT : Tryd.prog.eqGuardType Tryd.prog.depth 36 = false := by kernel_rfl
theorem eqgS : Tryd.prog.eqGuardType Tryd.prog.depth 50 = false := by kernel_rfl
end TgP
end Go.Proofs.YtdmnhpgafbcehaaDoor
set_option maxRecDepth 100000
namespace Go.Proofs.YtdmnhpgafbcehaaDoor
open Go.ChangeShapes Go.WideShapes Go.ChangeAt Go.RowKit
attribute [local go_sem] Gives
namespace TrM
open TgP RwP
theorem zT : Tryd.prog.built 36 [] = some (ar 32 fun _ => 0) := by kernel_rfl
theorem zS : Tryd.prog.built 50 [] = some (ar 64 fun _ => 0) := by kernel_rfl
/-- Which numbers there are. -/
def Tr.has (t : Tr) (j : Int) : Prop := 1 ≤ j ∧ j < (2 * t.n : Nat)
set_option maxHeartbeats 800000 in
set_option maxRecDepth 100000 in
theorem rtagNo (g gl cl : Nat) (t : Tr) (j : Int) (hj : ¬ t.has j) (w : World) (H : RefT w g gl cl t) :
    Calls Tryd.prog 16 #[.pointer (some ⟨g, 0, none⟩), .int .i64 j] w fun e w' => e = .returned (.tuple #[.agg (ar 32 fun _ => 0), .int .i64 2]) ∧ Below w.heap.size w w' := by
  have HP := hid fun w => rpow_any t.h H.h2 w
  have HN := n2 t H.h2
  have HH := hid H
  rw [show 2 ^ t.h = t.n from rfl] at HP
  obtain ⟨n, hn⟩ : ∃ n, n = t.n := ⟨_, rfl⟩
  rw [← hn] at HP HN
  have hj' : j < 1 ∨ (¬ j < 1 ∧ 2 * (n : Int) ≤ j) := by
    unfold Tr.has at hj
    rw [← hn] at hj
    omega
  clear H hj hn
  have hlt := HH.out.lt.1
  have hz : Blk (w.alloc (.cells (ar 32 fun _ => 0) 36)) w.heap.size 36 (ar 32 fun _ => 0) := Blk.new _ _ _
  have hbz : Below w.heap.size w (w.alloc (.cells (ar 32 fun _ => 0) 36)) := (Below.refl _ _).alloc (Nat.le_refl _) _
  have hh := hid (HH.out.below hbz)
  go_enter Tryd.func16, Tryd.ntmps16
  go_upto_region 1 with (with_reducible apply alA tT)
  generalize World.alloc w _ = w1 at hz hbz hh ⊢
  have c1 := trR_h hh.out.blk
  rcases hj' with h1 | ⟨h1, h2⟩
  · go_wp2_with (first | ((with_reducible apply bldZ zT)) | ((with_reducible apply stA tT); rfl; rfl; exact hz))
    apply ret_art tT Tryd.results16
    · rfl
    · rfl
    · rfl
    · exact hz.setRow_same _
    exact ⟨rfl, below_setRow hbz (Nat.le_refl _) _⟩
  · go_wp2_with fail
    refine (HP.out w1).mono ?_
    rintro e w' ⟨rfl, rfl⟩
    go_wp2_with (first | ((with_reducible apply bldZ zT)) | ((with_reducible apply stA tT); rfl; rfl; exact hz))
    apply ret_art tT Tryd.results16
    · rfl
    · rfl
    · rfl
    · exact hz.setRow_same _
    exact ⟨rfl, below_setRow hbz (Nat.le_refl _) _⟩
set_option maxHeartbeats 800000 in
set_option maxRecDepth 100000 in
theorem rtagYes (g gl cl : Nat) (t : Tr) (j : Nat) (hj : t.has j) (w : World) (H : RefT w g gl cl t) :
    Calls Tryd.prog 16 #[.pointer (some ⟨g, 0, none⟩), .int .i64 j] w fun e w' => e = .returned (.tuple #[.agg (ar 32 (t.tg j)), .int .i64 0]) ∧ Below w.heap.size w w' := by
  have HP := hid fun w => rpow_any t.h H.h2 w
  have HN := n2 t H.h2
  have HH := hid H
  rw [show 2 ^ t.h = t.n from rfl] at HP
  have HA := hid fun w H => rall_any g gl cl t w H
  have TF := hid (show tagsFrom t 1 j = t.tg j by unfold tagsFrom; rw [if_pos (by have := hj.1; omega)])
  obtain ⟨F, hF⟩ : ∃ F, F = t.tg j := ⟨_, rfl⟩
  rw [← hF] at TF ⊢
  obtain ⟨n, hn⟩ : ∃ n, n = t.n := ⟨_, rfl⟩
  rw [← hn] at HP HN HA
  have h1 : (1 : Int) ≤ (j : Int) := hj.1
  have h2 : (j : Int) < 2 * (n : Int) := by have := hj.2; rw [← hn] at this; omega
  clear H hj hF hn
  have hlt := HH.out.lt.1
  have hz : Blk (w.alloc (.cells (ar 32 fun _ => 0) 36)) w.heap.size 36 (ar 32 fun _ => 0) := Blk.new _ _ _
  have hbz := hid (show Below w.heap.size w (w.alloc (.cells (ar 32 fun _ => 0) 36)) from (Below.refl _ _).alloc (Nat.le_refl _) _)
  have hh := hid (HH.out.below hbz.out)
  go_enter Tryd.func16, Tryd.ntmps16
  go_upto_region 1 with (with_reducible apply alA tT)
  generalize World.alloc w _ = w1 at hz hbz hh ⊢
  have c1 := trR_h hh.out.blk
  have hzl := hz.lt
  go_wp2_with fail
  refine (HP.out w1).mono ?_
  rintro e w' ⟨rfl, rfl⟩
  go_wp2_with fail
  refine (HA.out w1 hh.out).mono ?_
  rintro e w2 ⟨gn, cn, rfl, o2, b2⟩
  have hz2 := hz.below b2 hzl
  have B2 := hid (hbz.out.trans (b2.mono hbz.out.size))
  have r2 := hid (OwnF.range o2 (i := j) (by omega))
  rw [TF.out] at r2
  obtain ⟨N2, hN2⟩ : ∃ N2, N2 = 2 * n := ⟨_, rfl⟩
  have l1 : j < N2 := by omega
  rw [← hN2]
  clear o2 b2 hz hN2 h2
  go_wp2_with (first | ((with_reducible apply ldAm tT); rfl; exact r2.out) | ((with_reducible apply stA tT); rfl; rfl; exact hz2))
  apply ret_art tT Tryd.results16
  · rfl
  · rfl
  · rfl
  · exact hz2.setRow_same _
  exact ⟨rfl, below_setRow B2.out (Nat.le_refl _) _⟩
/-- Which nodes there are. -/
def Tr.hasN (t : Tr) (j : Int) : Prop := 1 ≤ j ∧ j < (t.n : Nat)
set_option maxHeartbeats 800000 in
set_option maxRecDepth 100000 in
theorem rnodNo (g gl cl : Nat) (t : Tr) (j : Int) (hj : ¬ t.hasN j) (w : World) (H : RefT w g gl cl t) :
    Calls Tryd.prog 18 #[.pointer (some ⟨g, 0, none⟩), .int .i64 j] w fun e w' => e = .returned (.tuple #[.agg (ar 64 fun _ => 0), .int .i64 2]) ∧ Below w.heap.size w w' := by
  have HP := hid fun w => rpow_any t.h H.h2 w
  have HN := n2 t H.h2
  have HH := hid H
  rw [show 2 ^ t.h = t.n from rfl] at HP
  obtain ⟨n, hn⟩ : ∃ n, n = t.n := ⟨_, rfl⟩
  rw [← hn] at HP HN
  have hj' : j < 1 ∨ (¬ j < 1 ∧ (n : Int) ≤ j) := by
    unfold Tr.hasN at hj
    rw [← hn] at hj
    omega
  clear H hj hn
  have hlt := HH.out.lt.1
  have hz : Blk (w.alloc (.cells (ar 64 fun _ => 0) 50)) w.heap.size 50 (ar 64 fun _ => 0) := Blk.new _ _ _
  have hbz : Below w.heap.size w (w.alloc (.cells (ar 64 fun _ => 0) 50)) := (Below.refl _ _).alloc (Nat.le_refl _) _
  have hh := hid (HH.out.below hbz)
  go_enter Tryd.func18, Tryd.ntmps18
  go_upto_region 1 with (with_reducible apply alA tS)
  generalize World.alloc w _ = w1 at hz hbz hh ⊢
  have c1 := trR_h hh.out.blk
  rcases hj' with h1 | ⟨h1, h2⟩
  · go_wp2_with (first | ((with_reducible apply bldZ zS)) | ((with_reducible apply stA tS); rfl; rfl; exact hz))
    apply ret_art tS Tryd.results18
    · rfl
    · rfl
    · rfl
    · exact hz.setRow_same _
    exact ⟨rfl, below_setRow hbz (Nat.le_refl _) _⟩
  · go_wp2_with fail
    refine (HP.out w1).mono ?_
    rintro e w' ⟨rfl, rfl⟩
    go_wp2_with (first | ((with_reducible apply bldZ zS)) | ((with_reducible apply stA tS); rfl; rfl; exact hz))
    apply ret_art tS Tryd.results18
    · rfl
    · rfl
    · rfl
    · exact hz.setRow_same _
    exact ⟨rfl, below_setRow hbz (Nat.le_refl _) _⟩
set_option maxHeartbeats 800000 in
set_option maxRecDepth 100000 in
theorem rnodYes (g gl cl : Nat) (t : Tr) (j : Nat) (hj : t.hasN j) (w : World) (H : RefT w g gl cl t) :
    Calls Tryd.prog 18 #[.pointer (some ⟨g, 0, none⟩), .int .i64 j] w fun e w' => e = .returned (.tuple #[.agg (ar 64 (t.nd j)), .int .i64 0]) ∧ Below w.heap.size w w' := by
  have HP := hid fun w => rpow_any t.h H.h2 w
  have HN := n2 t H.h2
  have HH := hid H
  rw [show 2 ^ t.h = t.n from rfl] at HP
  have HA := hid fun w H => rall_any g gl cl t w H
  have TF := hid (show tagsFrom t 1 (2 * j) = t.tg (2 * j) by unfold tagsFrom; rw [if_pos (by have := hj.1; omega)])
  have TG := hid (show tagsFrom t 1 (2 * j + 1) = t.tg (2 * j + 1) by unfold tagsFrom; rw [if_pos (by omega)])
  rw [Tr.nd]
  obtain ⟨F, hF⟩ : ∃ F, F = t.tg (2 * j) := ⟨_, rfl⟩
  obtain ⟨G, hG⟩ : ∃ F, F = t.tg (2 * j + 1) := ⟨_, rfl⟩
  rw [← hF] at TF ⊢
  rw [← hG] at TG ⊢
  obtain ⟨n, hn⟩ : ∃ n, n = t.n := ⟨_, rfl⟩
  rw [← hn] at HP HN HA
  have h1 : (1 : Int) ≤ (j : Int) := hj.1
  have h2 : (j : Int) < (n : Int) := by have := hj.2; rw [← hn] at this; omega
  clear H hj hF hG hn
  have hlt := HH.out.lt.1
  have hz : Blk (w.alloc (.cells (ar 64 fun _ => 0) 50)) w.heap.size 50 (ar 64 fun _ => 0) := Blk.new _ _ _
  have hbz := hid (show Below w.heap.size w (w.alloc (.cells (ar 64 fun _ => 0) 50)) from (Below.refl _ _).alloc (Nat.le_refl _) _)
  have hh := hid (HH.out.below hbz.out)
  go_enter Tryd.func18, Tryd.ntmps18
  go_upto_region 1 with (with_reducible apply alA tS)
  generalize World.alloc w _ = w1 at hz hbz hh ⊢
  have c1 := trR_h hh.out.blk
  have hzl := hz.lt
  go_wp2_with fail
  refine (HP.out w1).mono ?_
  rintro e w' ⟨rfl, rfl⟩
  go_wp2_with fail
  refine (HA.out w1 hh.out).mono ?_
  rintro e w2 ⟨gn, cn, rfl, o2, b2⟩
  have hz2 := hz.below b2 hzl
  have B2 := hid (hbz.out.trans (b2.mono hbz.out.size))
  obtain ⟨N2, hN2⟩ : ∃ N2, N2 = 2 * n := ⟨_, rfl⟩
  obtain ⟨J2, hJ2⟩ : ∃ J, J = 2 * j := ⟨_, rfl⟩
  obtain ⟨J3, hJ3⟩ : ∃ J, J = 2 * j + 1 := ⟨_, rfl⟩
  have q2 := hid (show IntKind.i64.wrap (2 * (j : Int)) = (J2 : Int) from wr_nat (by omega) (by omega))
  have q3 := hid (show IntKind.i64.wrap ((J2 : Int) + 1) = (J3 : Int) from wr_nat (by omega) (by omega))
  have l2 : J2 < N2 := by omega
  have l3 : J3 < N2 := by omega
  have r2 := hid (OwnF.range o2 (i := J2) (by omega))
  have r3 := hid (OwnF.range o2 (i := J3) (by omega))
  rw [show tagsFrom t 1 J2 = F by rw [hJ2]; exact TF.out] at r2
  rw [show tagsFrom t 1 J3 = G by rw [hJ3]; exact TG.out] at r3
  rw [← hN2]
  have hgn := (OwnF.lt o2).1
  clear o2 b2 hz hN2 h2 hJ2 hJ3 TF TG
  go_upto_region 4 with fail
  refine wp_region_tail (C := fun w' => Below w2.heap.size w2 w') 12 (by kernel_rfl) (by kernel_rfl) (by kernel_rfl) (Below.refl _ _).drew ?_
  simp only [List.take_succ_cons, List.take_zero, List.drop_succ_cons, List.drop_zero]
  apply wpK_val
  · rfl
  · intro w' hw'
    go_simp
    first | exact rfl | exact ⟨rfl, hw'⟩
  simp only [Act.put, List.setIfInBounds_toArray, List.set_cons_succ, List.set_cons_zero]
  apply wpK_val
  · rfl
  · intro w' hw'
    go_simp
    first | exact rfl | exact ⟨rfl, hw'⟩
  simp only [Act.put, List.setIfInBounds_toArray, List.set_cons_succ, List.set_cons_zero]
  apply wpK_val
  · rfl
  · intro w' hw'
    have q2 : _ := q2.out
    go_simp
    first | exact rfl | exact ⟨rfl, hw'⟩
  simp only [Act.put, List.setIfInBounds_toArray, List.set_cons_succ, List.set_cons_zero]
  apply wpK_val
  · rfl
  · intro w' hw'
    have l2 : J2 < N2 := l2
    go_simp
    first | exact rfl | exact ⟨rfl, hw'⟩
  simp only [Act.put, List.setIfInBounds_toArray, List.set_cons_succ, List.set_cons_zero]
  apply kldA tT
  · rfl
  · rfl
  · exact fun w' hw' => fun q v hq => (hw'.cell (p := ⟨gn, J2 * 32 + q, none⟩) hgn).trans (r2.out q v hq)
  simp only [Act.put, List.setIfInBounds_toArray, List.set_cons_succ, List.set_cons_zero]
  apply wpK_val
  · rfl
  · intro w' hw'
    go_simp
    first | exact rfl | exact ⟨rfl, hw'⟩
  simp only [Act.put, List.setIfInBounds_toArray, List.set_cons_succ, List.set_cons_zero]
  apply wpK_val
  · rfl
  · intro w' hw'
    go_simp
    first | exact rfl | exact ⟨rfl, hw'⟩
  simp only [Act.put, List.setIfInBounds_toArray, List.set_cons_succ, List.set_cons_zero]
  apply wpK_val
  · rfl
  · intro w' hw'
    have q2 : _ := q2.out
    go_simp
    first | exact rfl | exact ⟨rfl, hw'⟩
  simp only [Act.put, List.setIfInBounds_toArray, List.set_cons_succ, List.set_cons_zero]
  apply wpK_val
  · rfl
  · intro w' hw'
    have q3 : _ := q3.out
    go_simp
    first | exact rfl | exact ⟨rfl, hw'⟩
  simp only [Act.put, List.setIfInBounds_toArray, List.set_cons_succ, List.set_cons_zero]
  apply wpK_val
  · rfl
  · intro w' hw'
    have l3 : J3 < N2 := l3
    go_simp
    first | exact rfl | exact ⟨rfl, hw'⟩
  simp only [Act.put, List.setIfInBounds_toArray, List.set_cons_succ, List.set_cons_zero]
  apply kldA tT
  · rfl
  · rfl
  · exact fun w' hw' => fun q v hq => (hw'.cell (p := ⟨gn, J3 * 32 + q, none⟩) hgn).trans (r3.out q v hq)
  simp only [Act.put, List.setIfInBounds_toArray, List.set_cons_succ, List.set_cons_zero]
  apply wpK_val
  · rfl
  · intro w' hw'
    go_simp
    exact (rjoin_any F G w').mono fun e w5 h => ⟨h.1, hw'.trans (h.2.mono hw'.size)⟩
  simp only [Act.put, List.setIfInBounds_toArray, List.set_cons_succ, List.set_cons_zero]
  refine wpK_nil fun w7 h7 => ?_
  have hz7 := hz2.below h7 hz2.lt
  have B7 := hid (B2.out.trans (h7.mono B2.out.size))
  clear hz2 B2 h7 r2 r3 q2 q3
  go_wp2_with ((with_reducible apply stA tS); rfl; rfl; exact hz7)
  apply ret_art tS Tryd.results18
  · rfl
  · rfl
  · rfl
  · exact hz7.setRow_same _
  exact ⟨rfl, below_setRow B7.out (Nat.le_refl _) _⟩
end TrM
end Go.Proofs.YtdmnhpgafbcehaaDoor
set_option maxRecDepth 100000
namespace Go.Proofs.YtdmnhpgafbcehaaDoor
open Go.ChangeShapes Go.WideShapes Go.ChangeAt Go.RowKit
attribute [local go_sem] Gives
namespace TrM
open TgP RwP
/-- Is the sector of j another one in u than in t? -/
def oth (t u : Tr) (j : Nat) : Bool := !eqA 32 (t.tg (2 * j)) (u.tg (2 * j)) || !eqA 32 (t.tg (2 * j + 1)) (u.tg (2 * j + 1))
/-- The numbers of a path's nodes whose sectors are others. -/
def chg (t u : Tr) (leaf : Nat) : List Nat := (pthL t.h leaf).filter (oth t u)
theorem chg_step {t u : Tr} {leaf i : Nat} (hi : i < t.h) : ((pthL t.h leaf).take (i + 1)).filter (oth t u) = ((pthL t.h leaf).take i).filter (oth t u) ++ (if oth t u (pth t.h leaf i) then [pth t.h leaf i] else []) := by
  rw [pthL_take hi, List.filter_append]
  congr 1
  by_cases e : oth t u (pth t.h leaf i) = true
  · rw [if_pos e]; simp [e]
  · rw [if_neg e]; simp [e]
theorem chg_le (t u : Tr) (leaf i : Nat) : (((pthL t.h leaf).take i).filter (oth t u)).length ≤ t.h := by
  refine Nat.le_trans (List.length_filter_le _ _) ?_
  rw [List.length_take, pthL_length]; omega
set_option maxHeartbeats 800000 in
theorem rsetNo (g gl cl : Nat) (t : Tr) (leaf : Int) (f : Nat → Nat) (hj : ¬ (0 ≤ leaf ∧ leaf < (t.n : Nat))) (w : World) (H : RefT w g gl cl t) :
    Calls Tryd.prog 13 #[.pointer (some ⟨g, 0, none⟩), .int .i64 leaf, .agg (ar 32 f)] w fun e w' => e = .returned (.tuple #[.slice none 0 0, .int .i64 2]) ∧ Below w.heap.size w w' := by
  have HP := hid fun w => rpow_any t.h H.h2 w
  have HN := n2 t H.h2
  have HH := hid H
  rw [show 2 ^ t.h = t.n from rfl] at HP
  obtain ⟨n, hn⟩ : ∃ n, n = t.n := ⟨_, rfl⟩
  rw [← hn] at HP HN
  have hj' : leaf < 0 ∨ (¬ leaf < 0 ∧ (n : Int) ≤ leaf) := by
    rw [← hn] at hj
    omega
  clear H hj hn
  have hlt := HH.out.lt.1
  have hbz := hid (show Below w.heap.size w (w.alloc (.cells (ar 32 f) 36)) from (Below.refl _ _).alloc (Nat.le_refl _) _)
  have hh := hid (HH.out.below hbz.out)
  go_enter Tryd.func13, Tryd.ntmps13
  go_upto_region 1 with fail
  generalize World.alloc w _ = w1 at hbz hh ⊢
  have c1 := trR_h hh.out.blk
  rcases hj' with h1 | ⟨h1, h2⟩
  · go_wp2_with fail
    go_ret2
    exact ⟨rfl, hbz.out⟩
  · go_wp2_with fail
    refine (HP.out w1).mono ?_
    rintro e w' ⟨rfl, rfl⟩
    go_wp2_with fail
    go_ret2
    exact ⟨rfl, hbz.out⟩
set_option maxHeartbeats 1600000 in
set_option maxRecDepth 100000 in
theorem rsetYes (g gl cl : Nat) (t : Tr) (leaf : Nat) (hl : leaf < t.n) (f : Nat → Nat) (hf : ∀ i, f i < 256) (w : World) (H : RefT w g gl cl t) :
    Calls Tryd.prog 13 #[.pointer (some ⟨g, 0, none⟩), .int .i64 leaf, .agg (ar 32 f)] w fun e w' => ∃ v, e = .returned (.tuple #[v, .int .i64 0]) ∧ OwnI w' w.heap.size v (chg t (t.set leaf f) leaf) ∧ RefT w' g gl cl (t.set leaf f) ∧ Turn (fun b => b = gl) w w' := by
  have HP := hid fun w => rpow_any t.h H.h2 w
  have HN := n2 t H.h2
  have HH := hid H
  have HF := hid hf
  have hhl : okH t.h := ⟨by have := H.h1; omega, by have := H.h2; omega⟩
  have PA := hid fun w => rpath_any t.h leaf hhl hl w
  have hh12 := H.h2
  have hh1 := H.h1
  rw [show 2 ^ t.h = t.n from rfl] at HP
  have HA := hid fun w H => rall_any g gl cl t w H
  obtain ⟨u, hu⟩ : ∃ u, u = t.set leaf f := ⟨_, rfl⟩
  have HA2 := hid fun w H => rall_any g gl cl u w H
  have un : u.n = t.n := by rw [hu]; rfl
  have uh : u.h = t.h := by rw [hu]; rfl
  rw [un] at HA2
  rw [← hu]
  have HU := hid hu
  have hgg := H.lt.1
  have hgl := H.lt.2
  have hne : g ≠ gl := fun e => by
    obtain ⟨cur, h1, _⟩ := OwnF.obj H.own
    have h2 := H.blk
    unfold Blk at h2
    rw [e, h1] at h2
    simp at h2
  obtain ⟨n, hn⟩ : ∃ n, n = t.n := ⟨_, rfl⟩
  have NE := hid hn
  rw [← hn] at HP HN HA HA2 hl
  clear H hn hf hhl hu
  have hbz := hid (show Below w.heap.size w (w.alloc (.cells (ar 32 f) 36)) from (Below.refl _ _).alloc (Nat.le_refl _) _)
  have hk := hid (show Blk (w.alloc (.cells (ar 32 f) 36)) w.heap.size 36 (ar 32 f) from Blk.new _ _ _)
  have hh := hid (HH.out.below hbz.out)
  go_enter Tryd.func13, Tryd.ntmps13
  go_upto_region 1 with fail
  generalize World.alloc w _ = w1 at hbz hk hh ⊢
  have c1 := trR_h hh.out.blk
  go_wp2_with fail
  refine (HP.out w1).mono ?_
  rintro e w' ⟨rfl, rfl⟩
  go_wp2_with fail
  refine (HA.out w1 hh.out).mono ?_
  rintro e w2 ⟨gn, cn, rfl, o2, b2⟩
  have HO2 := hid o2
  have h2 := hid (hh.out.below b2)
  have k2 := hid (hk.out.below b2 hk.out.lt)
  have B2 := hid (hbz.out.trans (b2.mono hbz.out.size))
  have lw1 := hbz.out.size
  have lw2 := b2.size
  clear o2 b2 hh hk hbz c1
  go_upto_region 4 with fail
  have c2 := hid (show w2.cell? ⟨g, 33, none⟩ = some (.slice (some ⟨gl, 0, none⟩) n cl) by rw [NE.out]; exact trR_v h2.out.blk)
  refine wp_region_tail (C := fun w' => Below w2.heap.size w2 w') 7 (by kernel_rfl) (by kernel_rfl) (by kernel_rfl) (Below.refl _ _).drew ?_
  simp only [List.take_succ_cons, List.take_zero, List.drop_succ_cons, List.drop_zero]
  apply wpK_val
  · rfl
  · intro w' hw'
    go_simp
    first | exact rfl | exact ⟨rfl, hw'⟩
  simp only [Act.put, List.setIfInBounds_toArray, List.set_cons_succ, List.set_cons_zero]
  apply wpK_val
  · rfl
  · intro w' hw'
    go_simp
    first | exact rfl | exact ⟨rfl, hw'⟩
  simp only [Act.put, List.setIfInBounds_toArray, List.set_cons_succ, List.set_cons_zero]
  apply wpK_val
  · rfl
  · intro w' hw'
    go_simp
    first | exact rfl | exact ⟨rfl, hw'⟩
  simp only [Act.put, List.setIfInBounds_toArray, List.set_cons_succ, List.set_cons_zero]
  apply wpK_val
  · rfl
  · intro w' hw'
    have hcell := (hw'.cell (p := ⟨g, 33, none⟩) h2.out.lt.1).trans c2.out
    go_simp
    first | exact rfl | exact ⟨rfl, hw'⟩
  simp only [Act.put, List.setIfInBounds_toArray, List.set_cons_succ, List.set_cons_zero]
  apply wpK_val
  · rfl
  · intro w' hw'
    go_simp
    first | exact rfl | exact ⟨rfl, hw'⟩
  simp only [Act.put, List.setIfInBounds_toArray, List.set_cons_succ, List.set_cons_zero]
  apply kldA tT
  · rfl
  · rfl
  · exact fun w' hw' => (k2.out.below hw' k2.out.lt).head
  simp only [Act.put, List.setIfInBounds_toArray, List.set_cons_succ, List.set_cons_zero]
  apply wpK_val
  · rfl
  · intro w' hw'
    have l1 : leaf < n := hl
    go_simp
    first | exact rfl | exact ⟨rfl, hw'⟩
  simp only [Act.put, List.setIfInBounds_toArray, List.set_cons_succ, List.set_cons_zero]
  refine wpK_nil fun w3 h3 => ?_
  have h3' := hid (h2.out.below h3)
  have O3 := hid (HO2.out.below h3 (Nat.le_refl _))
  have B3 := hid (B2.out.trans (h3.mono B2.out.size))
  have lw3 := h3.size
  have own3 := hid (show OwnF 36 32 w3 0 (.slice (some ⟨gl, 0, none⟩) n cl) n t.L by rw [NE.out]; exact h3'.out.own)
  clear h3 HO2 h2 k2 B2 c2
  go_upto_region 5 with ((with_reducible apply wstF (i := leaf) tT (by omega)); rfl; rfl; rfl; exact own3.out; exact hl; intro w4 o4 t4)
  have H4 := hid (show RefT w4 g gl cl u from ⟨by
      rw [HU.out]
      exact h3'.out.blk.turn t4 hne, by
      rw [un, ← NE.out]
      exact OwnF.ext o4 fun i j _ _ => by rw [HU.out]; rfl, by rw [uh]; exact h3'.out.h1, by rw [uh]; exact h3'.out.h2, by rw [HU.out]; exact h3'.out.k256, fun i j => by
      rw [HU.out]
      show (if i = leaf then f else t.L i) j < 256
      split
      · exact HF.out j
      · exact h3'.out.L256 i j⟩)
  have hgn := (O3.out.own gn rfl).1
  have O4 := hid (O3.out.turn t4 fun b e => by cases e; show ¬ gn = gl; omega)
  have T4 := hid (show Turn (fun b => b = gl) w w4 from (Turn.of_new (S := fun b => b = gl) B3.out).trans t4 fun k e => .inl e)
  have lw4 := t4.size
  clear o4 t4 own3 O3 h3' B3
  go_wp2_with fail
  refine (HA2.out w4 H4.out).mono ?_
  rintro e w5 ⟨gm, cm, rfl, o5, b5⟩
  have H5 := hid (H4.out.below b5)
  have O5 := hid (O4.out.below b5 (Nat.le_refl _))
  have P5 := hid o5
  have T5 := hid (T4.out.trans (Turn.of_new (S := fun _ => False) b5) fun k e => e.elim)
  have lw5 := b5.size
  clear o5 b5 H4 O4 T4
  have c5 := trR_h H5.out.blk
  rw [uh] at c5
  go_wp2_with fail
  refine (PA.out w5).mono ?_
  rintro e w6 ⟨vp, rfl, op, b6⟩
  obtain ⟨gp, cp, rfl, hpc⟩ := OwnI.get op (j := 0) (by rw [pthL_length]; omega)
  rw [pthL_length] at *
  have H6 := hid (H5.out.below b6)
  have O6 := hid (O5.out.below b6 (Nat.le_refl _))
  have P6 := hid (P5.out.below b6 (Nat.le_refl _))
  have T6 := hid (T5.out.trans (Turn.of_new (S := fun _ => False) b6) fun k e => e.elim)
  have PC := hid hpc
  have lw6 := b6.size
  clear op b6 H5 O5 P5 T5 c5 hpc
  go_wp2_with fail
  obtain ⟨N2, hN2⟩ : ∃ N2, N2 = 2 * n := ⟨_, rfl⟩
  rw [← hN2] at O6 P6 ⊢
  have hA : N2 ≤ 2 * n := by omega
  have hB : 2 * n ≤ N2 := by omega
  clear hN2
  have LT := hid fun i => pth_lt (h := t.h) (leaf := leaf) (i := i) (by rw [← show 2 ^ t.h = t.n from rfl] at NE; have := NE.out; omega)
  rw [show 2 ^ t.h = t.n from rfl, ← NE.out] at LT
  have POS := hid fun i (hi : i < t.h) => pth_pos (h := t.h) (leaf := leaf) hi
  have GD := hid fun i (hi : i < t.h) => show (pthL t.h leaf).getD i 0 = pth t.h leaf i by simp [pthL, hi]
  have CS := hid fun i (hi : i < t.h) => chg_step (t := t) (u := u) (leaf := leaf) hi
  have CL := hid (chg_le t u leaf)
  have gpl := World.block_lt_of_cell? w6 ⟨gp, 0, none⟩ (PC.out 0 hh1)
  have gnl := (OwnF.lt O6.out).1
  have gml := (OwnF.lt P6.out).1
  go_loopw [10, 12] (fun u10 v wr => ∃ i : Nat, i ≤ t.h ∧ v = .int .i64 i ∧ Hid (OwnI wr w6.heap.size u10 (((pthL t.h leaf).take i).filter (oth t u))) ∧ Hid (Below w6.heap.size w6 wr)) (fun _ v _ => t.h - (intOf v).toNat)
  case atStart => exact ⟨0, by omega, rfl, hid (by rw [List.take_zero]; exact OwnI.nil _ _), hid (Below.refl _ _)⟩
  case round =>
    obtain ⟨i, hi, rfl, ho, hb⟩ := hrel
    by_cases hlt : i < t.h
    · have ti : (i : Int) < (t.h : Int) := by omega
      have cp := hid ((hb.out.cell (p := ⟨gp, i, none⟩) gpl).trans (PC.out i hlt))
      rw [GD.out i hlt] at cp
      have hj1 := POS.out i hlt
      have hj2 := LT.out i
      have cs := hid (CS.out i hlt)
      have cl := hid (CL.out i)
      generalize pth t.h leaf i = j at *
      have cpc := cp.out
      go_upto_region 12 with fail
      clear cpc
      obtain ⟨J2, hJ2⟩ : ∃ J, J = 2 * j := ⟨_, rfl⟩
      obtain ⟨J3, hJ3⟩ : ∃ J, J = 2 * j + 1 := ⟨_, rfl⟩
      have q2 := hid (show IntKind.i64.wrap (2 * (j : Int)) = (J2 : Int) from wr_nat (by omega) (by omega))
      have q3 := hid (show IntKind.i64.wrap ((J2 : Int) + 1) = (J3 : Int) from wr_nat (by omega) (by omega))
      have l2 : J2 < N2 := by omega
      have l3 : J3 < N2 := by omega
      have e6 : gn < wr.heap.size := Nat.lt_of_lt_of_le gnl hb.out.size
      have e7 : gm < wr.heap.size := Nat.lt_of_lt_of_le gml hb.out.size
      have r1 := hid (OwnF.range (O6.out.below hb.out (Nat.le_refl _)) (i := J2) (by omega))
      have r2 := hid (OwnF.range (O6.out.below hb.out (Nat.le_refl _)) (i := J3) (by omega))
      have r3 := hid (OwnF.range (P6.out.below hb.out (Nat.le_refl _)) (i := J2) (by omega))
      have r4 := hid (OwnF.range (P6.out.below hb.out (Nat.le_refl _)) (i := J3) (by omega))
      rw [show tagsFrom t 1 J2 = t.tg (2 * j) by unfold tagsFrom; rw [if_pos (by omega), hJ2]] at r1
      rw [show tagsFrom t 1 J3 = t.tg (2 * j + 1) by unfold tagsFrom; rw [if_pos (by omega), hJ3]] at r2
      rw [show tagsFrom u 1 J2 = u.tg (2 * j) by unfold tagsFrom; rw [if_pos (by omega), hJ2]] at r3
      rw [show tagsFrom u 1 J3 = u.tg (2 * j + 1) by unfold tagsFrom; rw [if_pos (by omega), hJ3]] at r4
      clear hJ2 hJ3
      have OT := hid (show oth t u j = (!eqA 32 (t.tg (2 * j)) (u.tg (2 * j)) || !eqA 32 (t.tg (2 * j + 1)) (u.tg (2 * j + 1))) from rfl)
      generalize t.tg (2 * j) = f1 at *
      generalize t.tg (2 * j + 1) = f2 at *
      generalize u.tg (2 * j) = f3 at *
      generalize u.tg (2 * j + 1) = f4 at *
      obtain ⟨b1, hb1⟩ : ∃ b, b = !eqA 32 f1 f3 := ⟨_, rfl⟩
      have B1 := hid hb1.symm
      rw [← hb1] at OT
      clear hb1
      cases b1
      · obtain ⟨b2, hb2⟩ : ∃ b, b = !eqA 32 f2 f4 := ⟨_, rfl⟩
        have B2 := hid hb2.symm
        rw [← hb2, Bool.false_or] at OT
        clear hb2
        refine wp_region_tail (C := fun w' => Below wr.heap.size wr w') 26 (by kernel_rfl) (by kernel_rfl) (by kernel_rfl) (Below.refl _ _).drew ?_
        simp only [List.take_succ_cons, List.take_zero, List.drop_succ_cons, List.drop_zero]
        apply wpK_val
        · rfl
        · intro w' hw'
          go_simp
          first | exact rfl | exact ⟨rfl, hw'⟩
        simp only [Act.put, List.setIfInBounds_toArray, List.set_cons_succ, List.set_cons_zero]
        apply wpK_val
        · rfl
        · intro w' hw'
          go_simp
          first | exact rfl | exact ⟨rfl, hw'⟩
        simp only [Act.put, List.setIfInBounds_toArray, List.set_cons_succ, List.set_cons_zero]
        apply wpK_val
        · rfl
        · intro w' hw'
          have q2 : _ := q2.out
          go_simp
          first | exact rfl | exact ⟨rfl, hw'⟩
        simp only [Act.put, List.setIfInBounds_toArray, List.set_cons_succ, List.set_cons_zero]
        apply wpK_val
        · rfl
        · intro w' hw'
          have l2 : J2 < N2 := l2
          go_simp
          first | exact rfl | exact ⟨rfl, hw'⟩
        simp only [Act.put, List.setIfInBounds_toArray, List.set_cons_succ, List.set_cons_zero]
        apply kldA tT
        · rfl
        · rfl
        · exact fun w' hw' => fun q v hq => (hw'.cell (p := ⟨gn, J2 * 32 + q, none⟩) e6).trans (r1.out q v hq)
        simp only [Act.put, List.setIfInBounds_toArray, List.set_cons_succ, List.set_cons_zero]
        apply wpK_val
        · rfl
        · intro w' hw'
          go_simp
          first | exact rfl | exact ⟨rfl, hw'⟩
        simp only [Act.put, List.setIfInBounds_toArray, List.set_cons_succ, List.set_cons_zero]
        apply wpK_val
        · rfl
        · intro w' hw'
          go_simp
          first | exact rfl | exact ⟨rfl, hw'⟩
        simp only [Act.put, List.setIfInBounds_toArray, List.set_cons_succ, List.set_cons_zero]
        apply wpK_val
        · rfl
        · intro w' hw'
          have q2 : _ := q2.out
          go_simp
          first | exact rfl | exact ⟨rfl, hw'⟩
        simp only [Act.put, List.setIfInBounds_toArray, List.set_cons_succ, List.set_cons_zero]
        apply wpK_val
        · rfl
        · intro w' hw'
          have l2 : J2 < N2 := l2
          go_simp
          first | exact rfl | exact ⟨rfl, hw'⟩
        simp only [Act.put, List.setIfInBounds_toArray, List.set_cons_succ, List.set_cons_zero]
        apply kldA tT
        · rfl
        · rfl
        · exact fun w' hw' => fun q v hq => (hw'.cell (p := ⟨gm, J2 * 32 + q, none⟩) e7).trans (r3.out q v hq)
        simp only [Act.put, List.setIfInBounds_toArray, List.set_cons_succ, List.set_cons_zero]
        apply kneU false uT eqgT
        · rfl
        · rfl
        · rfl
        · exact B1.out
        simp only [Act.put, List.setIfInBounds_toArray, List.set_cons_succ, List.set_cons_zero]
        apply wpK_val
        · rfl
        · intro w' hw'
          go_simp
          first | exact rfl | exact ⟨rfl, hw'⟩
        simp only [Act.put, List.setIfInBounds_toArray, List.set_cons_succ, List.set_cons_zero]
        apply wpK_val
        · rfl
        · intro w' hw'
          go_simp
          first | exact rfl | exact ⟨rfl, hw'⟩
        simp only [Act.put, List.setIfInBounds_toArray, List.set_cons_succ, List.set_cons_zero]
        apply wpK_val
        · rfl
        · intro w' hw'
          go_simp
          first | exact rfl | exact ⟨rfl, hw'⟩
        simp only [Act.put, List.setIfInBounds_toArray, List.set_cons_succ, List.set_cons_zero]
        apply wpK_val
        · rfl
        · intro w' hw'
          have q2 : _ := q2.out
          go_simp
          first | exact rfl | exact ⟨rfl, hw'⟩
        simp only [Act.put, List.setIfInBounds_toArray, List.set_cons_succ, List.set_cons_zero]
        apply wpK_val
        · rfl
        · intro w' hw'
          have q3 : _ := q3.out
          go_simp
          first | exact rfl | exact ⟨rfl, hw'⟩
        simp only [Act.put, List.setIfInBounds_toArray, List.set_cons_succ, List.set_cons_zero]
        apply wpK_val
        · rfl
        · intro w' hw'
          have l3 : J3 < N2 := l3
          go_simp
          first | exact rfl | exact ⟨rfl, hw'⟩
        simp only [Act.put, List.setIfInBounds_toArray, List.set_cons_succ, List.set_cons_zero]
        apply kldA tT
        · rfl
        · rfl
        · exact fun w' hw' => fun q v hq => (hw'.cell (p := ⟨gn, J3 * 32 + q, none⟩) e6).trans (r2.out q v hq)
        simp only [Act.put, List.setIfInBounds_toArray, List.set_cons_succ, List.set_cons_zero]
        apply wpK_val
        · rfl
        · intro w' hw'
          go_simp
          first | exact rfl | exact ⟨rfl, hw'⟩
        simp only [Act.put, List.setIfInBounds_toArray, List.set_cons_succ, List.set_cons_zero]
        apply wpK_val
        · rfl
        · intro w' hw'
          go_simp
          first | exact rfl | exact ⟨rfl, hw'⟩
        simp only [Act.put, List.setIfInBounds_toArray, List.set_cons_succ, List.set_cons_zero]
        apply wpK_val
        · rfl
        · intro w' hw'
          have q2 : _ := q2.out
          go_simp
          first | exact rfl | exact ⟨rfl, hw'⟩
        simp only [Act.put, List.setIfInBounds_toArray, List.set_cons_succ, List.set_cons_zero]
        apply wpK_val
        · rfl
        · intro w' hw'
          have q3 : _ := q3.out
          go_simp
          first | exact rfl | exact ⟨rfl, hw'⟩
        simp only [Act.put, List.setIfInBounds_toArray, List.set_cons_succ, List.set_cons_zero]
        apply wpK_val
        · rfl
        · intro w' hw'
          have l3 : J3 < N2 := l3
          go_simp
          first | exact rfl | exact ⟨rfl, hw'⟩
        simp only [Act.put, List.setIfInBounds_toArray, List.set_cons_succ, List.set_cons_zero]
        apply kldA tT
        · rfl
        · rfl
        · exact fun w' hw' => fun q v hq => (hw'.cell (p := ⟨gm, J3 * 32 + q, none⟩) e7).trans (r4.out q v hq)
        simp only [Act.put, List.setIfInBounds_toArray, List.set_cons_succ, List.set_cons_zero]
        apply kneU b2 uT eqgT
        · rfl
        · rfl
        · rfl
        · exact B2.out
        simp only [Act.put, List.setIfInBounds_toArray, List.set_cons_succ, List.set_cons_zero]
        apply wpK_val
        · rfl
        · intro w' hw'
          go_simp
          first | exact rfl | exact ⟨rfl, hw'⟩
        simp only [Act.put, List.setIfInBounds_toArray, List.set_cons_succ, List.set_cons_zero]
        refine wpK_nil fun w7 h7 => ?_
        have o7 := hid (ho.out.below h7 (Nat.le_refl _))
        have b7 := hid (hb.out.trans (h7.mono hb.out.size))
        have HB7 := hid b7.out.size
        clear ho hb h7 r1 r2 r3 r4 q2 q3 cp e6 e7 l2 l3
        cases b2
        · go_wp2_with fail
          go_roundw
          case rel => exact ⟨i + 1, by omega, by go_num, hid (by rw [cs.out, OT.out, if_neg (by decide), List.append_nil]; exact o7.out), b7⟩
          case measure => simp [intOf]; omega
        · have OL := hid (OwnI.below (k := w7.heap.size) o7.out ((Below.refl w7.heap.size w7).alloc (Nat.le_refl _) (.cells #[.int .i64 (j : Nat)] 3)) (Nat.le_refl _))
          have hcl : (w7.alloc (.cells #[.int .i64 (j : Nat)] 3)).cell? ⟨w7.heap.size, 0, none⟩ = some (.int .i64 (j : Nat)) := (Blk.new w7 _ _).cell 0
          go_wp2_with (at_builtin; (with_reducible apply wappi); rfl; rfl; exact OL.out; exact hcl; (have := cl.out; omega); (have := HB7.out; simp; omega); intro v' w8 o8 g8)
          have b8 := (b7.out.alloc HB7.out (.cells #[.int .i64 (j : Nat)] 3)).grown g8 (by have := HB7.out; simp; omega) fun g hg => (OwnI.lt o7.out g hg).1
          go_roundw
          case rel => exact ⟨i + 1, by omega, by go_num, hid (by rw [cs.out, OT.out, if_pos rfl]; exact o8), hid b8⟩
          case measure => simp [intOf]; omega
      · rw [Bool.true_or] at OT
        refine wp_region_tail (C := fun w' => Below wr.heap.size wr w') 26 (by kernel_rfl) (by kernel_rfl) (by kernel_rfl) (Below.refl _ _).drew ?_
        simp only [List.take_succ_cons, List.take_zero, List.drop_succ_cons, List.drop_zero]
        apply wpK_val
        · rfl
        · intro w' hw'
          go_simp
          first | exact rfl | exact ⟨rfl, hw'⟩
        simp only [Act.put, List.setIfInBounds_toArray, List.set_cons_succ, List.set_cons_zero]
        apply wpK_val
        · rfl
        · intro w' hw'
          go_simp
          first | exact rfl | exact ⟨rfl, hw'⟩
        simp only [Act.put, List.setIfInBounds_toArray, List.set_cons_succ, List.set_cons_zero]
        apply wpK_val
        · rfl
        · intro w' hw'
          have q2 : _ := q2.out
          go_simp
          first | exact rfl | exact ⟨rfl, hw'⟩
        simp only [Act.put, List.setIfInBounds_toArray, List.set_cons_succ, List.set_cons_zero]
        apply wpK_val
        · rfl
        · intro w' hw'
          have l2 : J2 < N2 := l2
          go_simp
          first | exact rfl | exact ⟨rfl, hw'⟩
        simp only [Act.put, List.setIfInBounds_toArray, List.set_cons_succ, List.set_cons_zero]
        apply kldA tT
        · rfl
        · rfl
        · exact fun w' hw' => fun q v hq => (hw'.cell (p := ⟨gn, J2 * 32 + q, none⟩) e6).trans (r1.out q v hq)
        simp only [Act.put, List.setIfInBounds_toArray, List.set_cons_succ, List.set_cons_zero]
        apply wpK_val
        · rfl
        · intro w' hw'
          go_simp
          first | exact rfl | exact ⟨rfl, hw'⟩
        simp only [Act.put, List.setIfInBounds_toArray, List.set_cons_succ, List.set_cons_zero]
        apply wpK_val
        · rfl
        · intro w' hw'
          go_simp
          first | exact rfl | exact ⟨rfl, hw'⟩
        simp only [Act.put, List.setIfInBounds_toArray, List.set_cons_succ, List.set_cons_zero]
        apply wpK_val
        · rfl
        · intro w' hw'
          have q2 : _ := q2.out
          go_simp
          first | exact rfl | exact ⟨rfl, hw'⟩
        simp only [Act.put, List.setIfInBounds_toArray, List.set_cons_succ, List.set_cons_zero]
        apply wpK_val
        · rfl
        · intro w' hw'
          have l2 : J2 < N2 := l2
          go_simp
          first | exact rfl | exact ⟨rfl, hw'⟩
        simp only [Act.put, List.setIfInBounds_toArray, List.set_cons_succ, List.set_cons_zero]
        apply kldA tT
        · rfl
        · rfl
        · exact fun w' hw' => fun q v hq => (hw'.cell (p := ⟨gm, J2 * 32 + q, none⟩) e7).trans (r3.out q v hq)
        simp only [Act.put, List.setIfInBounds_toArray, List.set_cons_succ, List.set_cons_zero]
        apply kneU true uT eqgT
        · rfl
        · rfl
        · rfl
        · exact B1.out
        simp only [Act.put, List.setIfInBounds_toArray, List.set_cons_succ, List.set_cons_zero]
        apply wpK_val
        · rfl
        · intro w' hw'
          go_simp
          first | exact rfl | exact ⟨rfl, hw'⟩
        simp only [Act.put, List.setIfInBounds_toArray, List.set_cons_succ, List.set_cons_zero]
        apply wpK_not
        · rfl
        simp only [Act.put, List.setIfInBounds_toArray, List.set_cons_succ, List.set_cons_zero]
        apply wpK_not
        · rfl
        simp only [Act.put, List.setIfInBounds_toArray, List.set_cons_succ, List.set_cons_zero]
        apply wpK_not
        · rfl
        simp only [Act.put, List.setIfInBounds_toArray, List.set_cons_succ, List.set_cons_zero]
        apply wpK_not
        · rfl
        simp only [Act.put, List.setIfInBounds_toArray, List.set_cons_succ, List.set_cons_zero]
        apply wpK_not
        · rfl
        simp only [Act.put, List.setIfInBounds_toArray, List.set_cons_succ, List.set_cons_zero]
        apply wpK_not
        · rfl
        simp only [Act.put, List.setIfInBounds_toArray, List.set_cons_succ, List.set_cons_zero]
        apply wpK_not
        · rfl
        simp only [Act.put, List.setIfInBounds_toArray, List.set_cons_succ, List.set_cons_zero]
        apply wpK_not
        · rfl
        simp only [Act.put, List.setIfInBounds_toArray, List.set_cons_succ, List.set_cons_zero]
        apply wpK_not
        · rfl
        simp only [Act.put, List.setIfInBounds_toArray, List.set_cons_succ, List.set_cons_zero]
        apply wpK_not
        · rfl
        simp only [Act.put, List.setIfInBounds_toArray, List.set_cons_succ, List.set_cons_zero]
        apply wpK_not
        · rfl
        simp only [Act.put, List.setIfInBounds_toArray, List.set_cons_succ, List.set_cons_zero]
        apply wpK_not
        · rfl
        simp only [Act.put, List.setIfInBounds_toArray, List.set_cons_succ, List.set_cons_zero]
        apply wpK_not
        · rfl
        simp only [Act.put, List.setIfInBounds_toArray, List.set_cons_succ, List.set_cons_zero]
        apply wpK_val
        · rfl
        · intro w' hw'
          go_simp
          first | exact rfl | exact ⟨rfl, hw'⟩
        simp only [Act.put, List.setIfInBounds_toArray, List.set_cons_succ, List.set_cons_zero]
        refine wpK_nil fun w7 h7 => ?_
        have o7 := hid (ho.out.below h7 (Nat.le_refl _))
        have b7 := hid (hb.out.trans (h7.mono hb.out.size))
        have HB7 := hid b7.out.size
        clear ho hb h7 r1 r2 r3 r4 q2 q3 cp e6 e7 l2 l3
        have OL := hid (OwnI.below (k := w7.heap.size) o7.out ((Below.refl w7.heap.size w7).alloc (Nat.le_refl _) (.cells #[.int .i64 (j : Nat)] 3)) (Nat.le_refl _))
        have hcl : (w7.alloc (.cells #[.int .i64 (j : Nat)] 3)).cell? ⟨w7.heap.size, 0, none⟩ = some (.int .i64 (j : Nat)) := (Blk.new w7 _ _).cell 0
        go_wp2_with (at_builtin; (with_reducible apply wappi); rfl; rfl; exact OL.out; exact hcl; (have := cl.out; omega); (have := HB7.out; simp; omega); intro v' w8 o8 g8)
        have b8 := (b7.out.alloc HB7.out (.cells #[.int .i64 (j : Nat)] 3)).grown g8 (by have := HB7.out; simp; omega) fun g hg => (OwnI.lt o7.out g hg).1
        go_roundw
        case rel => exact ⟨i + 1, by omega, by go_num, hid (by rw [cs.out, OT.out, if_pos rfl]; exact o8), hid b8⟩
        case measure => simp [intOf]; omega
    · have hie : i = t.h := by omega
      have ti : ¬ (i : Int) < (t.h : Int) := by omega
      have o9 := ho.out
      rw [List.take_of_length_le (by rw [pthL_length]; omega)] at o9
      have O9 := hid (show OwnI wr w.heap.size _ (chg t u leaf) from OwnI.down o9 (by omega))
      have H9 := hid (H6.out.below hb.out)
      have T9 := hid (T6.out.trans (Turn.of_new (S := fun _ => False) hb.out) fun k e => e.elim)
      clear ho hb o9 hie
      go_wp2_with fail
      go_ret2
      exact ⟨_, rfl, O9.out, H9.out, T9.out⟩
end TrM
end Go.Proofs.YtdmnhpgafbcehaaDoor
set_option maxRecDepth 100000
namespace Go.Proofs.YtdmnhpgafbcehaaDoor
open Go.RowKit
section
variable {P : Program} {ops : Array Oper}
/-- The operations in the order of the text, the k-th first. -/
def wpC (P : Program) (ops : Array Oper) (S : Nat → Value → Prop) (C : (Nat → Bool) → (Nat → Value) → World → Prop) (Q : (Nat → Value) → Act → Prop) : Nat → (Nat → Value) → List Oper → Act → Prop
  | _, vs, [], a => Q vs a
  | k, vs, o :: rest, a => ((Region.wanted o (yielded ops a.tmps) = true ∧ ∀ d w, d k = false → (∀ j, Region.waitsFor .any ops j k = true → d j = false) → (∀ j, Region.waitsFor .any ops k j = true → d j = true) → C d vs w →
      GivesE P o a w fun v w' => S k v ∧ C (upB d k) (updV vs k v) w') ∨
      (Region.wanted o (yielded ops a.tmps) = false ∧ S k undef ∧ (∀ d w, C d vs w → C (upB d k) (updV vs k undef) w))) ∧ (S k (vs k) → wpC P ops S C Q (k + 1) vs rest (a.put o.dst (vs k)))
end
open Go.ChangeShapes Go.WideShapes Go.ChangeAt
/-- A slice of so many elements. -/
def kSl (m : Nat) : Sp := ⟨fun v => ∃ (A : Option Addr) (c : Nat), v = .slice A m c, fun _ _ => True, .slice none m 0⟩
/-- A map. -/
def kMp : Sp := ⟨fun v => ∃ r : Nat, v = .map (some r), fun _ _ => True, .map (some 0)⟩
section
variable {α : Type} {k : Nat} {en : α → List Value} {E L : TypeId} {S : Nat → Prop} {w : World} {a : Act} {dst : Option Tmp} {ty : TypeId} {pos : String} {after : Array Edge} {gd : Option (Nat × Bool)} {R : Value → World → Prop} {o1 o2 : Operand} {v : Value} {l m : List α} {A : Option Addr} {n cap B : Nat}
end
/-- What holds in the midst of an append of one element to a slice of the member's own. -/
structure ApC {α : Type} (E : TypeId) (k : Nat) (en : α → List Value) (w0 : World) (vl : Value) (l : List α) (x : α) (d8 d9 : Bool) (v8 v9 : Value) (w' : World) : Prop where
  t : Turn (fun b => vl.ownBlock = some b) w0 w'
  b : d9 = false → Below w0.heap.size w0 w'
  lit : d8 = true → d9 = false → ∃ A c, v8 = .slice A 1 c ∧ Sli k en (fun b => w0.heap.size ≤ b) w' A [x] 1 c
  own : d9 = true → OwnX E k en w' 0 v9 (l ++ [x]) ∧ ∀ b, v9.ownBlock = some b → vl.ownBlock = some b ∨ w0.heap.size ≤ b
end Go.Proofs.YtdmnhpgafbcehaaDoor
set_option maxRecDepth 100000
namespace Go.Proofs.YtdmnhpgafbcehaaDoor
open Go.ChangeShapes Go.WideShapes Go.ChangeAt Go.RowKit
attribute [local go_sem] Gives GivesE
namespace TrM
open TgP RwP
/-- The sectors of a leaf's path. -/
def prf (t : Tr) (leaf i : Nat) : Nat → Nat := t.nd (pth t.h leaf i)
set_option maxHeartbeats 800000 in
theorem rproofNo (g gl cl : Nat) (t : Tr) (leaf : Int) (hj : ¬ (0 ≤ leaf ∧ leaf < (t.n : Nat))) (w : World) (H : RefT w g gl cl t) :
    Calls Tryd.prog 20 #[.pointer (some ⟨g, 0, none⟩), .int .i64 leaf] w fun e w' => e = .returned (.tuple #[.slice none 0 0, .int .i64 2]) ∧ Below w.heap.size w w' := by
  have HP := hid fun w => rpow_any t.h H.h2 w
  have HN := n2 t H.h2
  have HH := hid H
  rw [show 2 ^ t.h = t.n from rfl] at HP
  obtain ⟨n, hn⟩ : ∃ n, n = t.n := ⟨_, rfl⟩
  rw [← hn] at HP HN
  have hj' : leaf < 0 ∨ (¬ leaf < 0 ∧ (n : Int) ≤ leaf) := by
    rw [← hn] at hj
    omega
  clear H hj hn
  have hlt := HH.out.lt.1
  go_enter Tryd.func20, Tryd.ntmps20
  have c1 := trR_h HH.out.blk
  rcases hj' with h1 | ⟨h1, h2⟩
  · go_wp2_with fail
    go_ret2
    exact ⟨rfl, Below.refl _ _⟩
  · go_wp2_with fail
    refine (HP.out w).mono ?_
    rintro e w' ⟨rfl, rfl⟩
    go_wp2_with fail
    go_ret2
    exact ⟨rfl, Below.refl _ _⟩
set_option maxHeartbeats 1600000 in
set_option maxRecDepth 100000 in
theorem rproofYes (g gl cl : Nat) (t : Tr) (leaf : Nat) (hl : leaf < t.n) (w : World) (H : RefT w g gl cl t) :
    Calls Tryd.prog 20 #[.pointer (some ⟨g, 0, none⟩), .int .i64 leaf] w fun e w' => ∃ v, e = .returned (.tuple #[v, .int .i64 0]) ∧ OwnF 50 64 w' w.heap.size v t.h (prf t leaf) ∧ Below w.heap.size w w' := by
  have HP := hid fun w => rpow_any t.h H.h2 w
  have HN := n2 t H.h2
  have HH := hid H
  have hhl : okH t.h := ⟨by have := H.h1; omega, by have := H.h2; omega⟩
  have PA := hid fun w => rpath_any t.h leaf hhl hl w
  have hh12 := H.h2
  have hh1 := H.h1
  rw [show 2 ^ t.h = t.n from rfl] at HP
  have HA := hid fun w H => rall_any g gl cl t w H
  obtain ⟨n, hn⟩ : ∃ n, n = t.n := ⟨_, rfl⟩
  have NE := hid hn
  rw [← hn] at HP HN HA hl
  have LT := hid fun i => pth_lt (h := t.h) (leaf := leaf) (i := i) (by rw [show 2 ^ t.h = t.n from rfl, ← hn]; exact hl)
  rw [show 2 ^ t.h = t.n from rfl, ← hn] at LT
  have POS := hid fun i (hi : i < t.h) => pth_pos (h := t.h) (leaf := leaf) hi
  clear H hn hhl
  have c1 := trR_h HH.out.blk
  go_enter Tryd.func20, Tryd.ntmps20
  go_wp2_with fail
  refine (HP.out w).mono ?_
  rintro e w' ⟨rfl, rfl⟩
  go_wp2_with fail
  refine (HA.out w HH.out).mono ?_
  rintro e w2 ⟨gn, cn, rfl, o2, b2⟩
  have HO2 := hid o2
  have h2 := hid (HH.out.below b2)
  have B2 := hid b2
  have lw2 := b2.size
  clear o2 b2 c1
  have c2 := trR_h h2.out.blk
  go_wp2_with fail
  refine (PA.out w2).mono ?_
  rintro e w6 ⟨vp, rfl, op, b6⟩
  obtain ⟨gp, cp, rfl, hpc⟩ := OwnI.get op (j := 0) (by rw [pthL_length]; omega)
  rw [pthL_length] at *
  have O6 := hid (HO2.out.below b6 (Nat.le_refl _))
  have B6 := hid (B2.out.trans (b6.mono lw2))
  have PC := hid hpc
  have lw6 := b6.size
  clear op b6 HO2 h2 B2 c2 hpc
  go_wp2_with fail
  obtain ⟨N2, hN2⟩ : ∃ N2, N2 = 2 * n := ⟨_, rfl⟩
  rw [← hN2] at O6 ⊢
  have hA : N2 ≤ 2 * n := by omega
  have hB : 2 * n ≤ N2 := by omega
  clear hN2
  have GD := hid fun i (hi : i < t.h) => show (pthL t.h leaf).getD i 0 = pth t.h leaf i by simp [pthL, hi]
  have gpl := World.block_lt_of_cell? w6 ⟨gp, 0, none⟩ (PC.out 0 hh1)
  have gnl := (OwnF.lt O6.out).1
  go_loopw [8, 9] (fun u8 v wr => ∃ (i : Nat) (vl : Value), i ≤ t.h ∧ v = .int .i64 i ∧ vl = u8 ∧ Hid (OwnF 50 64 wr w6.heap.size vl i (prf t leaf)) ∧ Hid (Below w6.heap.size w6 wr)) (fun _ v _ => t.h - (intOf v).toNat)
  case atStart => exact ⟨0, _, by omega, rfl, rfl, hid (OwnX.nil _ _ _ _ _), hid (Below.refl _ _)⟩
  case round =>
    obtain ⟨i, vl, hi, rfl, rfl, ho, hb⟩ := hrel
    by_cases hlt : i < t.h
    · have ti : (i : Int) < (t.h : Int) := by omega
      have cp1 := hid ((hb.out.cell (p := ⟨gp, i, none⟩) gpl).trans (PC.out i hlt))
      rw [GD.out i hlt] at cp1
      have hj1 := POS.out i hlt
      have hj2 := LT.out i
      have PF := hid (show prf t leaf i = t.nd (pth t.h leaf i) from rfl)
      unfold Tr.nd at PF
      generalize pth t.h leaf i = j at *
      go_upto_region 9 with fail
      obtain ⟨J2, hJ2⟩ : ∃ J, J = 2 * j := ⟨_, rfl⟩
      obtain ⟨J3, hJ3⟩ : ∃ J, J = 2 * j + 1 := ⟨_, rfl⟩
      have q2 := hid (show IntKind.i64.wrap (2 * (j : Int)) = (J2 : Int) from wr_nat (by omega) (by omega))
      have q3 := hid (show IntKind.i64.wrap ((J2 : Int) + 1) = (J3 : Int) from wr_nat (by omega) (by omega))
      have l2 : J2 < N2 := by omega
      have l3 : J3 < N2 := by omega
      have e5 : gp < wr.heap.size := Nat.lt_of_lt_of_le gpl hb.out.size
      have e6 : gn < wr.heap.size := Nat.lt_of_lt_of_le gnl hb.out.size
      have r1 := hid (OwnF.range (O6.out.below hb.out (Nat.le_refl _)) (i := J2) (by omega))
      have r2 := hid (OwnF.range (O6.out.below hb.out (Nat.le_refl _)) (i := J3) (by omega))
      rw [show tagsFrom t 1 J2 = t.tg (2 * j) by unfold tagsFrom; rw [if_pos (by omega), hJ2]] at r1
      rw [show tagsFrom t 1 J3 = t.tg (2 * j + 1) by unfold tagsFrom; rw [if_pos (by omega), hJ3]] at r2
      clear hJ2 hJ3
      generalize t.tg (2 * j) = f1 at *
      generalize t.tg (2 * j + 1) = f2 at *
      refine wp_region_y [some vl, some (.slice (some ⟨gn, 0, none⟩) N2 cn), some (.slice (some ⟨gp, 0, none⟩) t.h cp), some (.int .i64 i), some (.pointer (some ⟨gp, i, none⟩)), some (.int .i64 j), some (.int .i64 J2), some (.pointer (some ⟨gn, J2 * 32, none⟩)), some (.agg (ar 32 f1)), some (.slice (some ⟨gn, 0, none⟩) N2 cn), some (.slice (some ⟨gp, 0, none⟩) t.h cp), some (.int .i64 i), some (.pointer (some ⟨gp, i, none⟩)), some (.int .i64 j), some (.int .i64 J2), some (.int .i64 J3), some (.pointer (some ⟨gn, J3 * 32, none⟩)), some (.agg (ar 32 f2)), some (.agg (ar 64 (joined f1 f2)))]
        [(19, spX 64 (arL 64) (fun b => wr.heap.size ≤ b) [joined f1 f2])] (fun y hy => by simp only [List.mem_cons, List.not_mem_nil, or_false] at hy; subst hy; exact spX_ok _ _ _ _) 20 (by kernel_rfl) (by kernel_rfl) (by kernel_rfl) fun vs => ?_
      simp only [List.take_succ_cons, List.take_zero, List.drop_succ_cons, List.drop_zero]
      refine ⟨.inl ⟨rfl, fun dd w' hd hC hDs => ?_⟩, fun e => ?_⟩
      · go_simp
        first | exact ⟨rfl, hC, Below.refl _ _, trivial⟩ | exact ⟨rfl, Below.refl _ _, trivial⟩ | exact ⟨hC, Below.refl _ _, trivial⟩
      have e' : vs 0 = _ := e
      rw [e']
      clear e e'
      simp only [Act.put, List.setIfInBounds_toArray, List.set_cons_succ, List.set_cons_zero]
      refine ⟨.inl ⟨rfl, fun dd w' hd hC hDs => ?_⟩, fun e => ?_⟩
      · go_simp
        first | exact ⟨rfl, hC, Below.refl _ _, trivial⟩ | exact ⟨rfl, Below.refl _ _, trivial⟩ | exact ⟨hC, Below.refl _ _, trivial⟩
      have e' : vs 1 = _ := e
      rw [e']
      clear e e'
      simp only [Act.put, List.setIfInBounds_toArray, List.set_cons_succ, List.set_cons_zero]
      refine ⟨.inl ⟨rfl, fun dd w' hd hC hDs => ?_⟩, fun e => ?_⟩
      · go_simp
        first | exact ⟨rfl, hC, Below.refl _ _, trivial⟩ | exact ⟨rfl, Below.refl _ _, trivial⟩ | exact ⟨hC, Below.refl _ _, trivial⟩
      have e' : vs 2 = _ := e
      rw [e']
      clear e e'
      simp only [Act.put, List.setIfInBounds_toArray, List.set_cons_succ, List.set_cons_zero]
      refine ⟨.inl ⟨rfl, fun dd w' hd hC hDs => ?_⟩, fun e => ?_⟩
      · go_simp
        first | exact ⟨rfl, hC, Below.refl _ _, trivial⟩ | exact ⟨rfl, Below.refl _ _, trivial⟩ | exact ⟨hC, Below.refl _ _, trivial⟩
      have e' : vs 3 = _ := e
      rw [e']
      clear e e'
      simp only [Act.put, List.setIfInBounds_toArray, List.set_cons_succ, List.set_cons_zero]
      refine ⟨.inl ⟨rfl, fun dd w' hd hC hDs => ?_⟩, fun e => ?_⟩
      · have l1 : i < t.h := hlt
        go_simp
        first | exact ⟨rfl, hC, Below.refl _ _, trivial⟩ | exact ⟨rfl, Below.refl _ _, trivial⟩ | exact ⟨hC, Below.refl _ _, trivial⟩
      have e' : vs 4 = _ := e
      rw [e']
      clear e e'
      simp only [Act.put, List.setIfInBounds_toArray, List.set_cons_succ, List.set_cons_zero]
      refine ⟨.inl ⟨rfl, fun dd w' hd hC hDs => ?_⟩, fun e => ?_⟩
      · have h1 : w'.cell? ⟨gp, i, none⟩ = some (.int .i64 (j : Nat)) := (hC.cell (p := ⟨gp, i, none⟩) e5).trans cp1.out
        go_simp
        first | exact ⟨rfl, hC, Below.refl _ _, trivial⟩ | exact ⟨rfl, Below.refl _ _, trivial⟩ | exact ⟨hC, Below.refl _ _, trivial⟩
      have e' : vs 5 = _ := e
      rw [e']
      clear e e'
      simp only [Act.put, List.setIfInBounds_toArray, List.set_cons_succ, List.set_cons_zero]
      refine ⟨.inl ⟨rfl, fun dd w' hd hC hDs => ?_⟩, fun e => ?_⟩
      · have q2 : _ := q2.out
        go_simp
        first | exact ⟨rfl, hC, Below.refl _ _, trivial⟩ | exact ⟨rfl, Below.refl _ _, trivial⟩ | exact ⟨hC, Below.refl _ _, trivial⟩
      have e' : vs 6 = _ := e
      rw [e']
      clear e e'
      simp only [Act.put, List.setIfInBounds_toArray, List.set_cons_succ, List.set_cons_zero]
      refine ⟨.inl ⟨rfl, fun dd w' hd hC hDs => ?_⟩, fun e => ?_⟩
      · have l2 : J2 < N2 := l2
        go_simp
        first | exact ⟨rfl, hC, Below.refl _ _, trivial⟩ | exact ⟨rfl, Below.refl _ _, trivial⟩ | exact ⟨hC, Below.refl _ _, trivial⟩
      have e' : vs 7 = _ := e
      rw [e']
      clear e e'
      simp only [Act.put, List.setIfInBounds_toArray, List.set_cons_succ, List.set_cons_zero]
      refine ⟨.inl ⟨rfl, fun dd w' hd hC hDs => ?_⟩, fun e => ?_⟩
      · exact gE_ldA tT rfl (fun q v hq => (hC.cell (p := ⟨gn, J2 * 32 + q, none⟩) e6).trans (r1.out q v hq)) ⟨rfl, hC, Below.refl _ _, trivial⟩
      have e' : vs 8 = _ := e
      rw [e']
      clear e e'
      simp only [Act.put, List.setIfInBounds_toArray, List.set_cons_succ, List.set_cons_zero]
      refine ⟨.inl ⟨rfl, fun dd w' hd hC hDs => ?_⟩, fun e => ?_⟩
      · go_simp
        first | exact ⟨rfl, hC, Below.refl _ _, trivial⟩ | exact ⟨rfl, Below.refl _ _, trivial⟩ | exact ⟨hC, Below.refl _ _, trivial⟩
      have e' : vs 9 = _ := e
      rw [e']
      clear e e'
      simp only [Act.put, List.setIfInBounds_toArray, List.set_cons_succ, List.set_cons_zero]
      refine ⟨.inl ⟨rfl, fun dd w' hd hC hDs => ?_⟩, fun e => ?_⟩
      · go_simp
        first | exact ⟨rfl, hC, Below.refl _ _, trivial⟩ | exact ⟨rfl, Below.refl _ _, trivial⟩ | exact ⟨hC, Below.refl _ _, trivial⟩
      have e' : vs 10 = _ := e
      rw [e']
      clear e e'
      simp only [Act.put, List.setIfInBounds_toArray, List.set_cons_succ, List.set_cons_zero]
      refine ⟨.inl ⟨rfl, fun dd w' hd hC hDs => ?_⟩, fun e => ?_⟩
      · go_simp
        first | exact ⟨rfl, hC, Below.refl _ _, trivial⟩ | exact ⟨rfl, Below.refl _ _, trivial⟩ | exact ⟨hC, Below.refl _ _, trivial⟩
      have e' : vs 11 = _ := e
      rw [e']
      clear e e'
      simp only [Act.put, List.setIfInBounds_toArray, List.set_cons_succ, List.set_cons_zero]
      refine ⟨.inl ⟨rfl, fun dd w' hd hC hDs => ?_⟩, fun e => ?_⟩
      · have l1 : i < t.h := hlt
        go_simp
        first | exact ⟨rfl, hC, Below.refl _ _, trivial⟩ | exact ⟨rfl, Below.refl _ _, trivial⟩ | exact ⟨hC, Below.refl _ _, trivial⟩
      have e' : vs 12 = _ := e
      rw [e']
      clear e e'
      simp only [Act.put, List.setIfInBounds_toArray, List.set_cons_succ, List.set_cons_zero]
      refine ⟨.inl ⟨rfl, fun dd w' hd hC hDs => ?_⟩, fun e => ?_⟩
      · have h1 : w'.cell? ⟨gp, i, none⟩ = some (.int .i64 (j : Nat)) := (hC.cell (p := ⟨gp, i, none⟩) e5).trans cp1.out
        go_simp
        first | exact ⟨rfl, hC, Below.refl _ _, trivial⟩ | exact ⟨rfl, Below.refl _ _, trivial⟩ | exact ⟨hC, Below.refl _ _, trivial⟩
      have e' : vs 13 = _ := e
      rw [e']
      clear e e'
      simp only [Act.put, List.setIfInBounds_toArray, List.set_cons_succ, List.set_cons_zero]
      refine ⟨.inl ⟨rfl, fun dd w' hd hC hDs => ?_⟩, fun e => ?_⟩
      · have q2 : _ := q2.out
        go_simp
        first | exact ⟨rfl, hC, Below.refl _ _, trivial⟩ | exact ⟨rfl, Below.refl _ _, trivial⟩ | exact ⟨hC, Below.refl _ _, trivial⟩
      have e' : vs 14 = _ := e
      rw [e']
      clear e e'
      simp only [Act.put, List.setIfInBounds_toArray, List.set_cons_succ, List.set_cons_zero]
      refine ⟨.inl ⟨rfl, fun dd w' hd hC hDs => ?_⟩, fun e => ?_⟩
      · have q3 : _ := q3.out
        go_simp
        first | exact ⟨rfl, hC, Below.refl _ _, trivial⟩ | exact ⟨rfl, Below.refl _ _, trivial⟩ | exact ⟨hC, Below.refl _ _, trivial⟩
      have e' : vs 15 = _ := e
      rw [e']
      clear e e'
      simp only [Act.put, List.setIfInBounds_toArray, List.set_cons_succ, List.set_cons_zero]
      refine ⟨.inl ⟨rfl, fun dd w' hd hC hDs => ?_⟩, fun e => ?_⟩
      · have l3 : J3 < N2 := l3
        go_simp
        first | exact ⟨rfl, hC, Below.refl _ _, trivial⟩ | exact ⟨rfl, Below.refl _ _, trivial⟩ | exact ⟨hC, Below.refl _ _, trivial⟩
      have e' : vs 16 = _ := e
      rw [e']
      clear e e'
      simp only [Act.put, List.setIfInBounds_toArray, List.set_cons_succ, List.set_cons_zero]
      refine ⟨.inl ⟨rfl, fun dd w' hd hC hDs => ?_⟩, fun e => ?_⟩
      · exact gE_ldA tT rfl (fun q v hq => (hC.cell (p := ⟨gn, J3 * 32 + q, none⟩) e6).trans (r2.out q v hq)) ⟨rfl, hC, Below.refl _ _, trivial⟩
      have e' : vs 17 = _ := e
      rw [e']
      clear e e'
      simp only [Act.put, List.setIfInBounds_toArray, List.set_cons_succ, List.set_cons_zero]
      refine ⟨.inl ⟨rfl, fun dd w' hd hC hDs => ?_⟩, fun e => ?_⟩
      · go_simp
        refine (rjoin_any f1 f2 w').mono ?_
        rintro e w2 ⟨rfl, h2⟩
        exact ⟨_, rfl, rfl, hC.trans (h2.mono hC.size), h2, trivial⟩
      have e' : vs 18 = _ := e
      rw [e']
      clear e e'
      simp only [Act.put, List.setIfInBounds_toArray, List.set_cons_succ, List.set_cons_zero]
      refine ⟨.inl ⟨rfl, fun dd w' hd hC hDs => ?_⟩, fun e => ?_⟩
      · have ha := (Below.refl w'.heap.size w').alloc (Nat.le_refl _) (.cells (arL 64 (joined f1 f2)).toArray 50)
        exact gE_lit1 (x := joined f1 f2) (v := .agg (ar 64 (joined f1 f2))) eltS Tryd.underlying55 (by omega) rfl rfl ⟨⟨_, _, rfl⟩, hC.trans (ha.mono hC.size), ha, yD_some rfl ⟨_, _, rfl, sli_lit1 eltS (joined f1 f2) w' hC.size⟩⟩
      obtain ⟨A8, c8, e'⟩ : ∃ (A : Option Addr) (c : Nat), vs 19 = .slice A 1 c := e
      rw [e']
      have E8 := hid e'
      clear e'
      simp only [Act.put, List.setIfInBounds_toArray, List.set_cons_succ, List.set_cons_zero]
      intro dd w7 hall h7 hDs
      obtain ⟨A', c', f, sl⟩ := hDs 19 (by omega)
      rw [E8.out] at f
      cases f
      have o7 := hid (ho.out.below h7 (Nat.le_refl _))
      have b7 := hid (hb.out.trans (h7.mono hb.out.size))
      have HB7 := hid b7.out.size
      have SL := hid sl
      clear hall hDs h7 sl ho hb r1 r2 q2 q3 cp1 E8
      go_wp2_with (at_builtin; (with_reducible apply wappX eltS Tryd.underlying55); rfl; rfl; exact o7.out; exact SL.out; (rw [lsF_len]; show i + 1 ≤ _; omega); omega; exact HB7.out; intro v8 w8 o8 g8)
      have b8 := b7.out.grown g8 (by have := HB7.out; omega) fun g hg => (o7.out.own g hg).1
      rw [lsF_snoc] at o8
      go_roundw
      case rel => exact ⟨i + 1, v8, by omega, by go_num, rfl, hid (OwnF.ext o8 fun q z _ _ => by
          unfold upF
          by_cases e : q = i
          · rw [if_pos e, e, PF.out]
          · rw [if_neg e]), hid b8⟩
      case measure => simp [intOf]; omega
    · have hie : i = t.h := by omega
      have ti : ¬ (i : Int) < (t.h : Int) := by omega
      have O9 := hid (show OwnF 50 64 wr w.heap.size vl t.h (prf t leaf) by rw [← hie]; exact OwnX.lower ho.out (by omega))
      have B9 := hid (B6.out.trans (hb.out.mono (by omega)))
      clear ho hb hie
      go_wp2_with fail
      go_ret2
      exact ⟨_, rfl, O9.out, B9.out⟩
end TrM
end Go.Proofs.YtdmnhpgafbcehaaDoor
set_option maxRecDepth 100000
namespace Go.Proofs.YtdmnhpgafbcehaaDoor
open Go.ChangeShapes Go.WideShapes Go.ChangeAt Go.RowKit
attribute [local go_sem] Gives GivesE
namespace TrM
open TgP RwP
theorem built_tr (k : Nat → Nat) (h g n m : Nat) : Tryd.prog.built 78 [(0, .agg (ar 32 k)), (1, .int .i64 (h : Nat)), (2, .slice (some ⟨g, 0, none⟩) n m)] = some (trR k h (.slice (some ⟨g, 0, none⟩) n m)) := by kernel_rfl
/-- The leaves of a new tree. -/
def newL (m : Nat) (F : Nat → Nat → Nat) (i : Nat) : Nat → Nat := if i < m then F i else fun _ => 0
set_option maxHeartbeats 800000 in
set_option maxRecDepth 100000 in
theorem rnewNo (k : Nat → Nat) (h : Int) (A : Option Addr) (m cap : Nat) (hb : h < 1 ∨ 12 < h ∨ (okH h ∧ 2 ^ h.toNat < m)) (w : World) :
    Calls Tryd.prog 11 #[.agg (ar 32 k), .int .i64 h, .slice A m cap] w fun e w' => e = .returned (.tuple #[.pointer none, .int .i64 2]) ∧ Below w.heap.size w w' := by
  go_enter Tryd.func11, Tryd.ntmps11
  go_upto_region 1 with fail
  have hbz := hid (show Below w.heap.size w (w.alloc (.cells (ar 32 k) 23)) from (Below.refl _ _).alloc (Nat.le_refl _) _)
  generalize World.alloc w _ = w1 at hbz ⊢
  by_cases h1 : h < 1
  · clear hb
    go_wp2_with fail
    go_ret2
    exact ⟨rfl, hbz.out⟩
  by_cases h2 : 12 < h
  · clear hb
    go_wp2_with fail
    go_ret2
    exact ⟨rfl, hbz.out⟩
  obtain ⟨q, rfl⟩ : ∃ q : Nat, h = q := ⟨h.toNat, by omega⟩
  have hm : 2 ^ q < m := by
    rcases hb with hb | hb | hb
    · omega
    · omega
    · exact hb.2
  have HP := hid fun w => rpow_any q (by omega) w
  obtain ⟨X, hX⟩ : ∃ X, X = 2 ^ q := ⟨_, rfl⟩
  rw [← hX] at HP hm
  clear hb hX
  go_wp2_with fail
  refine (HP.out w1).mono ?_
  rintro e w' ⟨rfl, rfl⟩
  go_wp2_with fail
  go_ret2
  exact ⟨rfl, hbz.out⟩
/-- A list of zeros that lies somewhere. -/
def spMk (n B : Nat) : Sp := ⟨fun v => ∃ g : Nat, v = .slice (some ⟨g, 0, none⟩) n n, fun v w => ∃ g : Nat, v = .slice (some ⟨g, 0, none⟩) n n ∧ OwnF 36 32 w B (.slice (some ⟨g, 0, none⟩) n n) n fun _ _ => 0, .slice (some ⟨0, 0, none⟩) n n⟩
theorem spMk_ok (n B : Nat) : (spMk n B).ok := ⟨⟨0, rfl⟩, fun v w1 w2 ⟨g, h1, h2⟩ hb => ⟨g, h1, h2.below hb (Nat.le_refl _)⟩⟩
def spBd (k : Nat → Nat) (h n B : Nat) : Sp := ⟨fun v => ∃ g : Nat, v = .agg (trR k h (.slice (some ⟨g, 0, none⟩) n n)), fun v w => ∃ g : Nat, v = .agg (trR k h (.slice (some ⟨g, 0, none⟩) n n)) ∧ OwnF 36 32 w B (.slice (some ⟨g, 0, none⟩) n n) n fun _ _ => 0, .agg (trR k h (.slice (some ⟨0, 0, none⟩) n n))⟩
theorem spBd_ok (k : Nat → Nat) (h n B : Nat) : (spBd k h n B).ok := ⟨⟨0, rfl⟩, fun v w1 w2 ⟨g, h1, h2⟩ hb => ⟨g, h1, h2.below hb (Nat.le_refl _)⟩⟩
def spBx (k : Nat → Nat) (h n B : Nat) : Sp := ⟨fun v => ∃ b : Nat, v = .pointer (some ⟨b, 0, none⟩), fun v w => ∃ b g : Nat, v = .pointer (some ⟨b, 0, none⟩) ∧ B ≤ b ∧ Blk w b 78 (trR k h (.slice (some ⟨g, 0, none⟩) n n)) ∧ OwnF 36 32 w B (.slice (some ⟨g, 0, none⟩) n n) n fun _ _ => 0, .pointer (some ⟨0, 0, none⟩)⟩
theorem spBx_ok (k : Nat → Nat) (h n B : Nat) : (spBx k h n B).ok := ⟨⟨0, rfl⟩, fun v w1 w2 ⟨b, g, h1, h0, h2, h3⟩ hb => ⟨b, g, h1, h0, h2.below hb h2.lt, h3.below hb (Nat.le_refl _)⟩⟩
set_option maxHeartbeats 1600000 in
set_option maxRecDepth 100000 in
theorem rnewYes (k : Nat → Nat) (hk : ∀ i, k i < 256) (h : Nat) (hh : okH h) (A : Option Addr) (F : Nat → Nat → Nat) (hF : ∀ i j, F i j < 256) (m cap : Nat) (hm : m ≤ 2 ^ h) (S : Nat → Prop) (w : World) (hA : SliF 32 S w A m F cap) :
    Calls Tryd.prog 11 #[.agg (ar 32 k), .int .i64 (h : Nat), .slice A m cap] w fun e w' => ∃ g gl cl, e = .returned (.tuple #[.pointer (some ⟨g, 0, none⟩), .int .i64 0]) ∧ RefT w' g gl cl ⟨k, h, newL m F⟩ ∧ w.heap.size ≤ g ∧ w.heap.size ≤ gl ∧ Below w.heap.size w w' := by
  have h12 : h ≤ 12 := by have := hh.2; omega
  have h1 : 1 ≤ h := by have := hh.1; omega
  have HP := hid fun w => rpow_any h h12 w
  have HX := pow_le h12
  have KK := hid hk
  have FF := hid hF
  have HA := hid hA
  obtain ⟨n, hn⟩ : ∃ n, n = 2 ^ h := ⟨_, rfl⟩
  have NE := hid hn
  rw [← hn] at HP HX hm
  have t1 : ¬ (n : Int) < (m : Int) := by omega
  have t2 : decide (n < m) = false := decide_eq_false (by omega)
  have t3 : decide ((h : Int) < 1) = false := decide_eq_false (by omega)
  have t4 : decide ((12 : Int) < (h : Int)) = false := decide_eq_false (by omega)
  have t5 : decide (12 < h) = false := decide_eq_false (by omega)
  clear hn hh hk hF hA
  go_enter Tryd.func11, Tryd.ntmps11
  go_upto_region 1 with fail
  have hbz := hid (show Below w.heap.size w (w.alloc (.cells (ar 32 k) 23)) from (Below.refl _ _).alloc (Nat.le_refl _) _)
  have z0 := hid (show Blk (w.alloc (.cells (ar 32 k) 23)) w.heap.size 23 (ar 32 k) from Blk.new _ _ _)
  generalize World.alloc w _ = w1 at hbz z0 ⊢
  go_wp2_with fail
  refine (HP.out w1).mono ?_
  rintro e w' ⟨rfl, rfl⟩
  go_upto_region 3 with fail
  clear t1 t2 t3 t4 t5
  refine wp_region_y [some (.agg (ar 32 k)), some (.int .i64 h), some (.int .i64 h), some (.int .i64 n)] [(4, spMk n w1.heap.size), (5, spBd k h n w1.heap.size), (6, spBx k h n w1.heap.size)] (fun y hy => by simp only [List.mem_cons, List.not_mem_nil, or_false] at hy; rcases hy with rfl | rfl | rfl; exact spMk_ok _ _; exact spBd_ok _ _ _ _; exact spBx_ok _ _ _ _) 7 (by kernel_rfl) (by kernel_rfl) (by kernel_rfl) fun vs => ?_
  simp only [List.take_succ_cons, List.take_zero, List.drop_succ_cons, List.drop_zero]
  refine ⟨.inl ⟨rfl, fun dd w' hd hC hDs => ?_⟩, fun e => ?_⟩
  · exact gE_ldA tK rfl ((z0.out.below hC z0.out.lt).head) ⟨rfl, hC, Below.refl _ _, trivial⟩
  have e' : vs 0 = _ := e
  rw [e']
  clear e e'
  simp only [Act.put, List.setIfInBounds_toArray, List.set_cons_succ, List.set_cons_zero]
  refine ⟨.inl ⟨rfl, fun dd w' hd hC hDs => ?_⟩, fun e => ?_⟩
  · go_simp
    first | exact ⟨rfl, hC, Below.refl _ _, trivial⟩ | exact ⟨rfl, Below.refl _ _, trivial⟩ | exact ⟨hC, Below.refl _ _, trivial⟩
  have e' : vs 1 = _ := e
  rw [e']
  clear e e'
  simp only [Act.put, List.setIfInBounds_toArray, List.set_cons_succ, List.set_cons_zero]
  refine ⟨.inl ⟨rfl, fun dd w' hd hC hDs => ?_⟩, fun e => ?_⟩
  · go_simp
    first | exact ⟨rfl, hC, Below.refl _ _, trivial⟩ | exact ⟨rfl, Below.refl _ _, trivial⟩ | exact ⟨hC, Below.refl _ _, trivial⟩
  have e' : vs 2 = _ := e
  rw [e']
  clear e e'
  simp only [Act.put, List.setIfInBounds_toArray, List.set_cons_succ, List.set_cons_zero]
  refine ⟨.inl ⟨rfl, fun dd w' hd hC hDs => ?_⟩, fun e => ?_⟩
  · go_simp
    refine (HP.out w').mono ?_
    rintro e w2 ⟨rfl, rfl⟩
    exact ⟨_, rfl, rfl, hC, Below.refl _ _, trivial⟩
  have e' : vs 3 = _ := e
  rw [e']
  clear e e'
  simp only [Act.put, List.setIfInBounds_toArray, List.set_cons_succ, List.set_cons_zero]
  refine ⟨.inl ⟨rfl, fun dd w' hd hC hDs => ?_⟩, fun e => ?_⟩
  · exact gE_mkF eltT tT.zero Tryd.underlying24 (by omega) (by omega) rfl rfl rfl fun w2 o2 h2 => ⟨⟨_, rfl⟩, hC.trans (h2.mono hC.size), h2, yD_some rfl ⟨_, rfl, OwnX.lower o2 hC.size⟩⟩
  obtain ⟨g4, e'⟩ : ∃ g : Nat, vs 4 = .slice (some ⟨g, 0, none⟩) n n := e
  rw [e']
  have E4 := hid e'
  clear e'
  simp only [Act.put, List.setIfInBounds_toArray, List.set_cons_succ, List.set_cons_zero]
  refine ⟨.inl ⟨rfl, fun dd w' hd hC hDs => ?_⟩, fun e => ?_⟩
  · obtain ⟨g, f, o4⟩ := hDs 4 (by kernel_rfl)
    rw [E4.out] at f
    simp only [Value.slice.injEq, Option.some.injEq, Addr.mk.injEq, and_true] at f
    obtain rfl := f
    exact gE_bl (fun w => run_build w _ _ _ (built_tr k h g4 n n)) (by simp only [List.map_toArray, List.map_cons, List.map_nil]; rfl) ⟨⟨_, rfl⟩, hC, Below.refl _ _, yD_some rfl ⟨_, rfl, o4⟩⟩
  obtain ⟨g5, e'⟩ : ∃ g : Nat, vs 5 = .agg (trR k h (.slice (some ⟨g, 0, none⟩) n n)) := e
  rw [e']
  have E5 := hid e'
  clear e'
  simp only [Act.put, List.setIfInBounds_toArray, List.set_cons_succ, List.set_cons_zero]
  refine ⟨.inl ⟨rfl, fun dd w' hd hC hDs => ?_⟩, fun e => ?_⟩
  · obtain ⟨g, f, o5⟩ := hDs 5 (by kernel_rfl)
    rw [E5.out] at f
    have f2 : (trR k h (.slice (some ⟨g5, 0, none⟩) n n))[33]? = (trR k h (.slice (some ⟨g, 0, none⟩) n n))[33]? := by rw [Value.agg.inj f]
    unfold trR at f2
    rw [get_row_lt (by omega), get_row_lt (by omega)] at f2
    simp at f2
    obtain rfl := f2
    have ha := (Below.refl w'.heap.size w').alloc (Nat.le_refl _) (.cells (trR k h (.slice (some ⟨g5, 0, none⟩) n n)) 78)
    exact gE_bx rfl ⟨⟨_, rfl⟩, hC.alloc hC.size _, ha, yD_some rfl ⟨_, _, rfl, hC.size, Blk.new _ _ _, OwnX.below o5 ha (Nat.le_refl _)⟩⟩
  obtain ⟨g6, e'⟩ : ∃ b : Nat, vs 6 = .pointer (some ⟨b, 0, none⟩) := e
  rw [e']
  have E6 := hid e'
  clear e'
  simp only [Act.put, List.setIfInBounds_toArray, List.set_cons_succ, List.set_cons_zero]
  intro dd w7 hall h7 hDs
  obtain ⟨b7, g7, f7, hB7, bk7, o7⟩ := hDs 6 (by omega)
  rw [E6.out] at f7
  simp only [Value.pointer.injEq, Option.some.injEq, Addr.mk.injEq, and_true] at f7
  obtain rfl := f7
  have B7 := hid (hbz.out.trans (h7.mono hbz.out.size))
  have BK := hid bk7
  have O7 := hid (OwnF.ext o7 (G := newL 0 F) fun i j _ _ => by unfold newL; rw [if_neg (by omega)])
  have hg7 := (OwnF.lt o7).2
  have hg7l := (OwnF.lt o7).1
  have hg6l := bk7.lt
  have hw1 := hbz.out.size
  have hne : g6 ≠ g7 := fun e => by
    obtain ⟨cur, q1, _⟩ := OwnF.obj o7
    have q2 := bk7
    unfold Blk at q2
    rw [e, q1] at q2
    simp at q2
  have A7 := hid (HA.out.bound.turn (Turn.of_new (S := fun _ => False) B7.out) fun _ _ _ e => e)
  clear hall hDs h7 bk7 o7 E4 E5 E6 z0 hbz HA HP
  go_wp2_with fail
  go_loopw [9] (fun v wr => ∃ i : Nat, i ≤ m ∧ v = .int .i64 i ∧ Hid (Blk wr g6 78 (trR k h (.slice (some ⟨g7, 0, none⟩) n n))) ∧ Hid (OwnF 36 32 wr w1.heap.size (.slice (some ⟨g7, 0, none⟩) n n) n (newL i F)) ∧ Hid (Sli 32 (arL 32) (fun b => b < w.heap.size) wr A (lsF m F) m cap) ∧ Hid (Below w.heap.size w wr)) (fun v _ => m - (intOf v).toNat)
  case atStart => exact ⟨0, by omega, rfl, BK, O7, A7, B7⟩
  case round =>
    clear BK O7 A7 B7
    obtain ⟨i, hi, rfl, hbk, ho, ha, hb⟩ := hrel
    by_cases hlt : i < m
    · have ti : (i : Int) < (m : Int) := by omega
      obtain ⟨b, o, rfl, hbS, hbl, hr⟩ := ha.out.some (lsF_get (F := F) hlt)
      have R1 := hid hr
      have cv := hid (trR_v hbk.out)
      have hgl := hbk.out.lt
      have hin : i < n := by omega
      have l1 := hlt
      go_upto_region 7 with fail
      refine wp_region_tail (C := fun w' => Below wr.heap.size wr w') 10 (by kernel_rfl) (by kernel_rfl) (by kernel_rfl) (Below.refl _ _).drew ?_
      simp only [List.take_succ_cons, List.take_zero, List.drop_succ_cons, List.drop_zero]
      apply wpK_val
      · rfl
      · intro w' hw'
        go_simp
        first | exact rfl | exact ⟨rfl, hw'⟩
      simp only [Act.put, List.setIfInBounds_toArray, List.set_cons_succ, List.set_cons_zero]
      apply wpK_val
      · rfl
      · intro w' hw'
        go_simp
        first | exact rfl | exact ⟨rfl, hw'⟩
      simp only [Act.put, List.setIfInBounds_toArray, List.set_cons_succ, List.set_cons_zero]
      apply wpK_val
      · rfl
      · intro w' hw'
        go_simp
        first | exact rfl | exact ⟨rfl, hw'⟩
      simp only [Act.put, List.setIfInBounds_toArray, List.set_cons_succ, List.set_cons_zero]
      apply wpK_val
      · rfl
      · intro w' hw'
        have hcell := (hw'.cell (p := ⟨g6, 33, none⟩) hgl).trans cv.out
        go_simp
        first | exact rfl | exact ⟨rfl, hw'⟩
      simp only [Act.put, List.setIfInBounds_toArray, List.set_cons_succ, List.set_cons_zero]
      apply wpK_val
      · rfl
      · intro w' hw'
        go_simp
        first | exact rfl | exact ⟨rfl, hw'⟩
      simp only [Act.put, List.setIfInBounds_toArray, List.set_cons_succ, List.set_cons_zero]
      apply wpK_val
      · rfl
      · intro w' hw'
        go_simp
        first | exact rfl | exact ⟨rfl, hw'⟩
      simp only [Act.put, List.setIfInBounds_toArray, List.set_cons_succ, List.set_cons_zero]
      apply wpK_val
      · rfl
      · intro w' hw'
        go_simp
        first | exact rfl | exact ⟨rfl, hw'⟩
      simp only [Act.put, List.setIfInBounds_toArray, List.set_cons_succ, List.set_cons_zero]
      apply wpK_val
      · rfl
      · intro w' hw'
        have l1 : i < m := hlt
        go_simp
        first | exact rfl | exact ⟨rfl, hw'⟩
      simp only [Act.put, List.setIfInBounds_toArray, List.set_cons_succ, List.set_cons_zero]
      apply kldA tT
      · rfl
      · rfl
      · exact fun w' hw' => fun q v hq => (hw'.cell (p := ⟨b, o + i * 32 + q, none⟩) hbl).trans (R1.out q v hq)
      simp only [Act.put, List.setIfInBounds_toArray, List.set_cons_succ, List.set_cons_zero]
      apply wpK_val
      · rfl
      · intro w' hw'
        have l2 : i < n := hin
        go_simp
        first | exact rfl | exact ⟨rfl, hw'⟩
      simp only [Act.put, List.setIfInBounds_toArray, List.set_cons_succ, List.set_cons_zero]
      refine wpK_nil fun w3 h3 => ?_
      have o3 := hid (OwnX.below ho.out h3 (Nat.le_refl _))
      have b3 := hid (hbk.out.below h3 hgl)
      have a3 := hid (ha.out.turn (Turn.of_new (S := fun _ => False) h3) fun _ _ _ e => e)
      have e3 := hid (hb.out.trans (h3.mono hb.out.size))
      clear ho hbk ha hb h3 R1 cv hr
      go_wp2_with ((with_reducible apply wstF (i := i) tT (by omega)); rfl; rfl; rfl; exact o3.out; exact hin; intro w4 o4 t4)
      have hS := e3.out.size
      go_roundw
      case rel => exact ⟨i + 1, by omega, by go_num, hid (b3.out.turn t4 hne), hid (OwnF.ext o4 fun q z _ _ => by
          unfold upF newL
          by_cases e : q = i
          · rw [if_pos e, if_pos (by omega), e]
          · rw [if_neg e]
            by_cases e2 : q < i
            · rw [if_pos e2, if_pos (by omega)]
            · rw [if_neg e2, if_neg (by omega)]), hid (a3.out.turn t4 fun q hq _ => by show ¬ q = g7; omega), hid (e3.out.trans (t4.below hS fun q e => by omega))⟩
      case measure => simp [intOf] <;> omega
    · obtain rfl : i = m := by omega
      have RT := hid (show RefT wr g6 g7 n ⟨k, h, newL i F⟩ from ⟨by
          show Blk wr g6 _ (trR k h (.slice (some ⟨g7, 0, none⟩) (2 ^ h) n))
          rw [← NE.out]; exact hbk.out, by
          show OwnF _ 32 wr 0 (.slice (some ⟨g7, 0, none⟩) (2 ^ h) n) (2 ^ h) _
          rw [← NE.out]; exact OwnX.lower ho.out (Nat.zero_le _), h1, h12, KK.out, fun a z => by
          show newL i F a z < 256
          unfold newL
          split
          · exact FF.out a z
          · show 0 < 256; omega⟩)
      have BE := hid hb.out
      clear hbk ho ha hb
      go_wp2_with fail
      go_ret2
      exact ⟨g6, g7, n, rfl, RT.out, by omega, by omega, BE.out⟩
end TrM
end Go.Proofs.YtdmnhpgafbcehaaDoor
