/-
  Lists of elements: an append to a slice that is full: a row of its own.
  Rows of n bytes loaded in a drawn region that makes a variable.
  Structs and arrays of any cells, loaded and stored whole.
  Lists of elements in a block of their own: read off ranges; several cells stored; cut; cleared.
  Lists of rows of K bytes each (tags, sectors), told by the place: as they come in, as the call's own; one loaded, one stored, one appended; made.
  The document's tree in memory; its tags (All).
  Rows of bytes: compared, built, returned beside a number.
  Tags and sectors compared, joined and cut: words of the laws of tags.
  The document's tree: New, Tag, Node.
  The document's tree: Set.
  A region that draws its order: of each operation's value one states what it is like (S); of the worlds what holds by which operations have come up, and by their values (C).
  The document's tree: Proof.
  The document's tree: New.
-/
import Derived.Test.YtdmnhpgafbcehaaDoorMrg5
import Derived.Laws.IdiomCopy
import Derived.Laws.OwnMore
import Derived.Deep.MidRow
set_option linter.unusedVariables false
set_option linter.unusedSimpArgs false
set_option maxRecDepth 100000
namespace Go.Proofs.YtdmnhpgafbcehaaDoor
open Go.ChangeShapes Go.WideShapes Go.ChangeAt Go.RowKit
section
variable {α : Type} {k : Nat} {en : α → List Value} {E L ty : TypeId} {S T : Nat → Prop} {w : World} {A B : Option Addr} {l m : List α}
variable {a : Act} {dst : Option Tmp} {pos : String} {after : Array Edge} {gd : Option (Nat × Bool)} {R : Value → World → Prop} {o1 o2 : Operand}
end
end Go.Proofs.YtdmnhpgafbcehaaDoor
set_option maxRecDepth 100000
namespace Go.Proofs.YtdmnhpgafbcehaaDoor
open Go.ChangeShapes Go.WideShapes Go.ChangeAt Go.RowKit
section
variable {ops : Array Oper} {a : Act} {rest : List Oper} {dst : Option Tmp} {ty : TypeId} {pos : String} {after : Array Edge} {x : Operand} {g o n : Nat} {f : Nat → Nat} {T : TypeId} {C : World → Prop} {Qk : Act → Prop} {gd : Option (Nat × Bool)}
theorem bldA (hT : ArT T n) (hwt : Region.wanted ⟨dst, .load T x, ty, pos, after, gd⟩ (yielded ops a.tmps) = true) (hx : a.eval x = .pointer (some ⟨g, o, none⟩)) (hb : ∀ w, C w → w.rangeAt g o (ar n f).toList) (h : wpB Tryd.prog ops C Qk rest (a.put dst (.agg (ar n f)))) :
    wpB Tryd.prog ops C Qk (⟨dst, .load T x, ty, pos, after, gd⟩ :: rest) a :=
  wpB_val hwt (fun w hw => gives_value (w' := w) (by simp only [execOp, hx, Sem.run_bind, run_ldm hT (hb w hw), Result.andThen_ok, Sem.run_pure]) ⟨hw, Below.refl _ _⟩) h
end
end Go.Proofs.YtdmnhpgafbcehaaDoor
set_option maxRecDepth 100000
namespace Go.Proofs.YtdmnhpgafbcehaaDoor
open Go.ChangeShapes Go.WideShapes Go.ChangeAt Go.RowKit
attribute [local go_sem] Gives
/-- A type of n cells, one behind the other. -/
structure RowT (T : TypeId) (n : Nat) : Prop where
  size : (Tryd.prog.info? T).map (·.size) = some n
  desc : ∃ d, Tryd.prog.underlying T = some d ∧ d.isRow = true
section
variable {ops : Array Oper} {Q : Exit → Act → World → Prop} {a : Act} {w : World} {rest : List Oper} {dst : Option Tmp} {ty : TypeId} {pos : String} {after : Array Edge} {x y : Operand} {g o n : Nat} {cs : Array Value} {T : TypeId} {C : World → Prop} {Qk : Act → Prop} {gd : Option (Nat × Bool)}
theorem Blk.whole {t : TypeId} (h : Blk w g t cs) : w.rangeAt g 0 cs.toList := fun j v hj => by
  rw [Nat.zero_add, h.cell]; rwa [Array.getElem?_toList] at hj
end
end Go.Proofs.YtdmnhpgafbcehaaDoor
set_option maxRecDepth 100000
namespace Go.Proofs.YtdmnhpgafbcehaaDoor
open Go.ChangeShapes Go.WideShapes Go.ChangeAt Go.RowKit
section
variable {α : Type} {E L : TypeId} {k : Nat} {en : α → List Value} {w : World} {g cap : Nat} {l : List α}
theorem own_of_ranges {cur : Array Value} (hE : ∀ x, (en x).length = k) (hk : 0 < k) (hg : w.heap[g]? = some (.cells cur E (0, 0))) (hcs : cur.size = cap * k) (hn : l.length ≤ cap) (hcm : cap ≤ maxLen)
    (hr : ∀ (q : Nat) x, l[q]? = some x → w.rangeAt g (q * k) (en x)) : OwnX E k en w 0 (.slice (some ⟨g, 0, none⟩) l.length cap) l := by
  refine ⟨flat_len hE l, .inr ⟨g, cap, cur, rfl, Nat.zero_le _, hg, hn, hcm, hcs, ?_⟩⟩
  have hlk : l.length * k ≤ cap * k := Nat.mul_le_mul_right k hn
  refine List.ext_getElem? fun m => ?_
  by_cases hm : m < l.length * k
  · rw [List.getElem?_take_of_lt hm, Array.getElem?_toList]
    have hq : m / k < l.length := Nat.div_lt_of_lt_mul (by rw [Nat.mul_comm]; exact hm)
    have hrm := Nat.mod_lt m hk
    have hx : l[m / k]? = some l[m / k] := List.getElem?_eq_getElem hq
    have h1 := flat_at hE l (m / k) (m % k) _ hx hrm
    have hmm : m / k * k + m % k = m := by rw [Nat.mul_comm]; exact Nat.div_add_mod m k
    rw [hmm] at h1
    have hlen := hE l[m / k]
    have h2 : (en l[m / k])[m % k]? = some (en l[m / k])[m % k] := List.getElem?_eq_getElem (by omega)
    have h3 := hr _ _ hx (m % k) _ h2
    rw [hmm, cell_of_row w g m cur E (0, 0) hg] at h3
    rw [h3, h1, h2]
  · rw [List.getElem?_eq_none (by rw [List.length_take]; omega), List.getElem?_eq_none (by rw [flat_len hE]; omega)]
theorem cells_setCells {t : TypeId} {N : Nat} : ∀ (vs : List Value) (o : Nat) (w : World), (∃ cur, w.heap[g]? = some (.cells cur t (0, 0)) ∧ cur.size = N) → ∃ cur, (w.setCells g o vs).heap[g]? = some (.cells cur t (0, 0)) ∧ cur.size = N
  | [], _, _, h => h
  | v :: vs, o, w, ⟨cur, h1, h2⟩ => by
    have h3 : Blk w g t cur := h1
    exact cells_setCells vs (o + 1) _ ⟨_, h3.setCell_same o v, by rw [Array.size_setIfInBounds]; exact h2⟩
theorem turn_setCells : ∀ (vs : List Value) (o : Nat) (w : World), Turn (fun b => b = g) w (w.setCells g o vs)
  | [], _, _ => Turn.refl _ _
  | v :: vs, o, w => (Turn.setCell (S := fun b => b = g) w ⟨g, o, none⟩ v rfl).trans (turn_setCells vs (o + 1) _) fun _ e => .inl e
theorem there_of {t : TypeId} {cur : Array Value} {o m : Nat} (h : w.heap[g]? = some (.cells cur t (0, 0))) (hm : o + m ≤ cur.size) : w.there g o m := fun j hj => by
  have hb : Blk w g t cur := h
  refine ⟨?_, hb.frozen _⟩
  rw [cell_of_row w g (o + j) cur t (0, 0) h, Array.getElem?_eq_getElem (by omega)]
  rfl
variable {ops : Array Oper} {Q : Exit → Act → World → Prop} {a : Act} {rest : List Oper} {dst : Option Tmp} {ty : TypeId} {pos : String} {after : Array Edge} {x : Operand}
theorem wslF {y : Operand} {n c m : Nat} (hE : EltX E k en) (hu : Tryd.prog.underlying L = some (.slice E)) (hel : Tryd.prog.elem L = E) (hx : a.eval x = .slice (some ⟨g, 0, none⟩) n c) (hy : a.eval y = .int .i64 m) (hm : m ≤ n) (hc : m < c)
    (h : wpList Tryd.prog ops Q rest (a.put dst (.slice (some ⟨g, m * k, none⟩) (n - m) (c - m))) w) : wpList Tryd.prog ops Q (⟨dst, .slice L x (some y) none none, ty, pos, after, none⟩ :: rest) a w := by
  obtain ⟨ie, z, hi, hz, h1, h2, h3⟩ := hE.info
  have hsz : (sizeOf (Tryd.prog.elem L)).run Tryd.prog w = .ok k w := by rw [hel]; simp [sizeOf, typeInfo, hi, h1]
  have hu' : Tryd.prog.underlying L = some (.slice (Tryd.prog.elem L)) := by rw [hel]; exact hu
  have hr : (Instr.sliceAt L (.slice (some ⟨g, 0, none⟩) n c) (some (.int .i64 m)) none none).run Tryd.prog w = .ok (.slice (some ⟨g, m * k, none⟩) (n - m) (c - m)) w := by
    rw [run_sliceAt_slice w L _ _ _ _ hu', run_slice_l w L _ n c hu' .i64 m (by omega) (by omega), hsz]
    simp only [Result.andThen, sliced, Int.toNat_natCast]
    rw [if_neg (by omega), Option.map_some, Addr.add_mid, Nat.zero_add]
  refine wpList_plain rfl fun K hK => ?_
  unfold Oper.wp execOp
  simp only [Sem.run_bind, Option.map_some, Option.map_none, Sem.run_pure, hx, hy, hr, Result.andThen_ok]
  exact hK _ _ h
end
theorem OwnX.obj {w : World} {α : Type} {E : TypeId} {k : Nat} {en : α → List Value} {B b : Nat} {v : Value} {l : List α} (h : OwnX E k en w B v l) (hb : v.ownBlock = some b) : ∃ cur, w.heap[b]? = some (.cells cur E (0, 0)) := by
  rcases h.2 with ⟨rfl, _⟩ | ⟨g, cap, cur, rfl, _, hg, _⟩
  · cases hb
  · cases hb
    exact ⟨cur, hg⟩
section
variable {ops : Array Oper} {Q : Exit → Act → World → Prop} {a : Act} {w : World} {rest : List Oper} {dst : Option Tmp} {ty T : TypeId} {pos : String} {after : Array Edge} {z cs : Array Value} {g : Nat} {t : TypeId}
end
end Go.Proofs.YtdmnhpgafbcehaaDoor
set_option maxRecDepth 100000
namespace Go.Proofs.YtdmnhpgafbcehaaDoor
open Go.ChangeShapes Go.WideShapes Go.ChangeAt Go.RowKit
attribute [local go_sem] Gives GivesE
theorem Sli.bound {α : Type} {k : Nat} {en : α → List Value} {S : Nat → Prop} {w : World} {A : Option Addr} {l : List α} {n c : Nat} (h : Sli k en S w A l n c) : Sli k en (fun b => b < w.heap.size) w A l n c :=
  ⟨h.len, h.cap, h.max, h.none, fun hn => by
    obtain ⟨b, o, e, _, hl, hr⟩ := h.lst hn
    exact ⟨b, o, e, hl, hl, hr⟩⟩
namespace RwP
abbrev arL (K : Nat) (f : Nat → Nat) : List Value := (ar K f).toList
def lsF (n : Nat) (F : Nat → Nat → Nat) : List (Nat → Nat) := (List.range n).map F
def upF (F : Nat → Nat → Nat) (i : Nat) (f : Nat → Nat) : Nat → Nat → Nat := fun j => if j = i then f else F j
theorem arL_len (K : Nat) (f : Nat → Nat) : (arL K f).length = K := by rw [Array.length_toList, size_ar]
theorem lsF_len (n : Nat) (F : Nat → Nat → Nat) : (lsF n F).length = n := by simp [lsF]
theorem lsF_get {n i : Nat} {F : Nat → Nat → Nat} (h : i < n) : (lsF n F)[i]? = some (F i) := by simp [lsF, h]
theorem lsF_some {n i : Nat} {F : Nat → Nat → Nat} {x : Nat → Nat} (h : (lsF n F)[i]? = some x) : i < n ∧ x = F i := by
  have hi := (List.getElem?_eq_some_iff.1 h).1
  rw [lsF_len] at hi
  rw [lsF_get hi] at h
  exact ⟨hi, (Option.some.inj h).symm⟩
/-- A list of the call's own. -/
abbrev OwnF (E : TypeId) (K : Nat) (w : World) (B : Nat) (v : Value) (n : Nat) (F : Nat → Nat → Nat) : Prop := OwnX E K (arL K) w B v (lsF n F)
/-- A list that stands somewhere. -/
abbrev SliF (K : Nat) (S : Nat → Prop) (w : World) (A : Option Addr) (n : Nat) (F : Nat → Nat → Nat) (cap : Nat) : Prop := Sli K (arL K) S w A (lsF n F) n cap
theorem ar_one' {K : Nat} (f : Nat → Nat) : ∀ u ∈ arL K f, u.oneCell' = true := fun u hu => (Array.all_eq_true_iff_forall_mem.1 ar_one) u (by simpa using hu)
section
variable {E : TypeId} {K B n cap g i : Nat} {F G : Nat → Nat → Nat} {w w' : World} {v : Value} {f : Nat → Nat} {S : Nat → Prop} {A : Option Addr}
theorem OwnF.ext (h : OwnF E K w B v n F) (he : ∀ i j, i < n → j < K → F i j = G i j) : OwnF E K w B v n G := by
  have e : (lsF n F).flatMap (arL K) = (lsF n G).flatMap (arL K) := by
    unfold lsF
    rw [List.flatMap_def, List.flatMap_def, List.map_map, List.map_map]
    congr 1
    exact List.map_congr_left fun i hi => by
      show (ar K (F i)).toList = (ar K (G i)).toList
      rw [ar_ext fun j hj => he i j (List.mem_range.1 hi) hj]
  unfold OwnF OwnX at *
  rw [← e, lsF_len]
  rw [lsF_len] at h
  exact h
theorem OwnF.range (h : OwnF E K w B (.slice (some ⟨g, 0, none⟩) n cap) n F) (hi : i < n) : w.rangeAt g (i * K) (arL K (F i)) := by
  obtain ⟨A, c, e, sl⟩ := OwnX.sli (arL_len K) h
  simp only [Value.slice.injEq] at e
  obtain ⟨rfl, _, _⟩ := e
  obtain ⟨b, o, e2, _, _, hr⟩ := sl.some (lsF_get hi)
  have hb : ∃ b', OwnX E K (arL K) w B (.slice (some ⟨g, 0, none⟩) n cap) (lsF n F) ∧ b' = g := ⟨g, h, rfl⟩
  simp only [Option.some.injEq, Addr.mk.injEq, and_true] at e2
  obtain ⟨rfl, rfl⟩ := e2
  rwa [Nat.zero_add] at hr
theorem OwnF.lt (h : OwnF E K w B (.slice (some ⟨g, 0, none⟩) n cap) n F) : g < w.heap.size ∧ B ≤ g := ⟨(h.own g rfl).2, (h.own g rfl).1⟩
theorem OwnF.obj (h : OwnF E K w B (.slice (some ⟨g, 0, none⟩) n cap) n F) : ∃ cur, w.heap[g]? = some (.cells cur E (0, 0)) ∧ cur.size = cap * K ∧ n ≤ cap ∧ cap ≤ maxLen := by
  rcases h.2 with ⟨e, _⟩ | ⟨g2, cap2, cur, e, hB, hg, hnc, hcm, hcs, ht⟩
  · cases e
  · simp only [Value.slice.injEq, Option.some.injEq, Addr.mk.injEq, and_true] at e
    obtain ⟨rfl, _, rfl⟩ := e
    rw [lsF_len] at hnc
    exact ⟨cur, hg, hcs, hnc, hcm⟩
theorem OwnX.raise {α : Type} {k : Nat} {en : α → List Value} {l : List α} (h : OwnX E k en w 0 v l) (hB : ∀ b, v.ownBlock = some b → B ≤ b) : OwnX E k en w B v l := by
  refine ⟨h.1, ?_⟩
  rcases h.2 with hn | ⟨g, cap, cur, rfl, hb, hgg, rest⟩
  · exact .inl hn
  · exact .inr ⟨g, cap, cur, rfl, hB g rfl, hgg, rest⟩
/-- One row stored. -/
theorem OwnF.put (hK : 0 < K) (h : OwnF E K w B (.slice (some ⟨g, 0, none⟩) n cap) n F) (hi : i < n) (f : Nat → Nat) :
    OwnF E K (w.setCells g (i * K) (arL K f)) B (.slice (some ⟨g, 0, none⟩) n cap) n (upF F i f) ∧ Turn (fun b => b = g) w (w.setCells g (i * K) (arL K f)) ∧ w.there g (i * K) K := by
  obtain ⟨cur, h1, h2, h3, h4⟩ := h.obj
  have hik : i * K + K ≤ cap * K := by
    have := Nat.mul_le_mul_right K (show i + 1 ≤ cap by omega)
    rw [Nat.add_mul] at this; omega
  have hth : w.there g (i * K) K := there_of h1 (by omega)
  refine ⟨?_, turn_setCells _ _ _, hth⟩
  obtain ⟨cur', q1, q2⟩ := cells_setCells (arL K f) (i * K) w ⟨cur, h1, h2⟩
  have ho : OwnX E K (arL K) (w.setCells g (i * K) (arL K f)) 0 (.slice (some ⟨g, 0, none⟩) (lsF n (upF F i f)).length cap) (lsF n (upF F i f)) := by
    refine own_of_ranges (arL_len K) hK q1 q2 (by rw [lsF_len]; exact h3) h4 fun q x hx => ?_
    obtain ⟨hq, rfl⟩ := lsF_some hx
    unfold upF
    by_cases e : q = i
    · subst e
      rw [if_pos rfl]
      exact World.rangeAt_setCells_same w g (q * K) (arL K f) (by rw [arL_len]; exact hth)
    · rw [if_neg e]
      refine World.rangeAt_setCells_apart (h.range hq) g (i * K) (arL K f) (.inr ?_)
      rw [arL_len, arL_len]
      rcases Nat.lt_or_ge q i with hlt | hge
      · left
        have := Nat.mul_le_mul_right K (show q + 1 ≤ i by omega)
        rw [Nat.add_mul] at this; omega
      · right
        have := Nat.mul_le_mul_right K (show i + 1 ≤ q by omega)
        rw [Nat.add_mul] at this; omega
  rw [lsF_len] at ho
  exact OwnX.raise ho fun b e => by cases e; exact h.lt.2
end
section
variable {ops : Array Oper} {Q : Exit → Act → World → Prop} {a : Act} {w : World} {rest : List Oper} {dst : Option Tmp} {ty E L : TypeId} {pos : String} {after : Array Edge} {x y s : Operand} {K B n m cap g i o : Nat} {F G : Nat → Nat → Nat} {f : Nat → Nat} {v : Value} {S : Nat → Prop} {A : Option Addr}
/-- One row stored, at the end of a region or in the text's order. -/
theorem wstF (hT : ArT E K) (hK : 0 < K) (hx : a.eval x = .pointer (some ⟨g, o, none⟩)) (hy : a.eval y = .agg (ar K f)) (ho : o = i * K) (h : OwnF E K w B (.slice (some ⟨g, 0, none⟩) n cap) n F) (hi : i < n)
    (hk : ∀ w', OwnF E K w' B (.slice (some ⟨g, 0, none⟩) n cap) n (upF F i f) → Turn (fun b => b = g) w w' → wpList Tryd.prog ops Q rest (a.put dst undef) w') :
    wpList Tryd.prog ops Q (⟨dst, .store E x y, ty, pos, after, none⟩ :: rest) a w := by
  subst ho
  obtain ⟨h1, h2, h3⟩ := OwnF.put hK h hi f
  exact wpList_store_mid rfl E x y rfl g (i * K) (ar K f) hx hy (by rw [size_ar]; exact h3) (hT.size.trans (by rw [size_ar])) ar_one (hk _ h1 h2)
/-- A list of n rows of zeros made. -/
theorem run_mkF (hE : EltX E K (arL K)) (hZ : ∀ w, (zeroValue E).run Tryd.prog w = .ok (.agg (ar K fun _ => 0)) w) (hu : Tryd.prog.underlying L = some (.slice E)) (hK : K ≤ 1000) (hn : n ≤ 16000) (w : World) :
    ∃ w', (Instr.makeSlice L (.int .i64 (n : Int)) (.int .i64 (n : Int))).run Tryd.prog w = .ok (.slice (some ⟨w.heap.size, 0, none⟩) n n) w' ∧ OwnF E K w' w.heap.size (.slice (some ⟨w.heap.size, 0, none⟩) n n) n (fun _ _ => 0) ∧ Below w.heap.size w w' := by
  obtain ⟨i, z, hi, hz, h1, h2, h3⟩ := hE.info
  have hzz : z = .agg (ar K fun _ => 0) := by
    have := hZ w
    simp [zeroValue, typeInfo, hi, hz] at this
    exact this
  obtain ⟨w', hr, ho, hg⟩ := run_makeSlice_full (P := Tryd.prog) w w.heap.size L E i z K hu hi hz h1 .i64 .i64 n (Nat.le_trans (Nat.mul_le_mul hn hK) (by omega)) (Nat.le_trans (Nat.mul_le_mul h2 hn) (by omega)) (by unfold maxLen; omega) (Nat.le_refl _)
  refine ⟨w', hr, ?_, ⟨hg.os, hg.tape, hg.output, hg.size, fun k hk => hg.block k hk (by simp)⟩⟩
  have e : (madeCells z.cells (n * K)).toList = (lsF n fun _ _ => 0).flatMap (arL K) := by
    subst hzz
    apply List.ext_getElem?
    intro j
    have hl : ((lsF n fun _ _ => 0).flatMap (arL K)).length = n * K := by rw [flat_len (arL_len K), lsF_len]
    by_cases hj : j < n * K
    · have hKp := hE.pos
      have hq : j / K < n := Nat.div_lt_of_lt_mul (by rw [Nat.mul_comm]; exact hj)
      have h4 := flat_at (arL_len K) (lsF n fun _ _ => 0) (j / K) (j % K) _ (lsF_get hq) (Nat.mod_lt _ hKp)
      rw [show j / K * K + j % K = j by rw [Nat.mul_comm]; exact Nat.div_add_mod j K] at h4
      rw [h4, Array.getElem?_toList, Array.getElem?_toList, get_ar (Nat.mod_lt _ hKp)]
      have h5 : (ar K fun _ => 0).size = K := size_ar
      have h6 : j % K < (ar K fun _ => 0).size := by rw [h5]; exact Nat.mod_lt _ hKp
      unfold madeCells
      rw [Array.getElem?_map, Array.getElem?_range, if_pos hj]
      show some ((ar K fun _ => 0)[j % (ar K fun _ => 0).size]!) = _
      rw [h5, getElem!_pos (ar K fun _ => 0) (j % K) h6]
      have h7 := get_ar (n := K) (f := fun _ => 0) (Nat.mod_lt j hKp)
      rw [Array.getElem?_eq_getElem h6] at h7
      exact h7
    · rw [List.getElem?_eq_none (by rw [Array.length_toList, size_madeCells]; omega), List.getElem?_eq_none (by omega)]
  rw [e] at ho
  unfold OwnF OwnX
  rw [lsF_len]
  exact ho
theorem gE_mkF {x y : Operand} {m : Int} {gd : Option (Nat × Bool)} {R : Value → World → Prop} (hE : EltX E K (arL K)) (hZ : ∀ w, (zeroValue E).run Tryd.prog w = .ok (.agg (ar K fun _ => 0)) w) (hu : Tryd.prog.underlying L = some (.slice E)) (hK : K ≤ 1000) (hn : n ≤ 16000) (hx : a.eval x = .int .i64 m) (hy : a.eval y = .int .i64 m) (hm : m = (n : Int))
    (hk : ∀ w', OwnF E K w' w.heap.size (.slice (some ⟨w.heap.size, 0, none⟩) n n) n (fun _ _ => 0) → Below w.heap.size w w' → R (.slice (some ⟨w.heap.size, 0, none⟩) n n) w') :
    GivesE Tryd.prog ⟨dst, .makeSlice L x y, ty, pos, after, gd⟩ a w R := by
  subst hm
  obtain ⟨w', hr, h1, h2⟩ := run_mkF hE hZ hu hK hn w
  unfold GivesE execOp
  simp only [Sem.run_bind, hx, hy, hr, Result.andThen_ok, Sem.run_pure]
  exact hk w' h1 h2
end
end RwP
end Go.Proofs.YtdmnhpgafbcehaaDoor
set_option maxRecDepth 100000
namespace Go.Proofs.YtdmnhpgafbcehaaDoor
open Go.ChangeShapes Go.WideShapes Go.ChangeAt Go.RowKit
attribute [local go_sem] Gives
namespace TrM
open TgP RwP
theorem eltT : EltX 36 32 (arL 32) := ⟨by omega, arL_len 32, fun f => ar_one' f, elt_info (by kernel_rfl) (by kernel_rfl) (by kernel_rfl)⟩
theorem eltS : EltX 50 64 (arL 64) := ⟨by omega, arL_len 64, fun f => ar_one' f, elt_info (by kernel_rfl) (by kernel_rfl) (by kernel_rfl)⟩
def trR (k : Nat → Nat) (h : Nat) (v : Value) : Array Value := row 34 fun j => if j < 32 then .int .u8 (k j : Nat) else if j = 32 then .int .i64 (h : Nat) else v
section
variable {w : World} {g : Nat} {t : TypeId} {k : Nat → Nat} {h : Nat} {v : Value}
end
/-- The document's tree. -/
structure RefT (w : World) (g gl cl : Nat) (t : Tr) : Prop where
  blk : Blk w g 78 (trR t.k t.h (.slice (some ⟨gl, 0, none⟩) t.n cl))
  own : OwnF 36 32 w 0 (.slice (some ⟨gl, 0, none⟩) t.n cl) t.n t.L
  h1 : 1 ≤ t.h
  h2 : t.h ≤ 12
  k256 : ∀ i, t.k i < 256
  L256 : ∀ i j, t.L i j < 256
theorem tgF_256 {k : Nat → Nat} {n : Nat} {L : Nat → Nat → Nat} (hL : ∀ i j, L i j < 256) : ∀ f j i, tgF k n L f j i < 256
  | 0, j, i => hL _ _
  | f + 1, j, i => by
    unfold tgF
    split
    · exact hL _ _
    · unfold ndT tagN
      exact HmM.tag_256 _ _ i
theorem RefT.turn {w w' : World} {g gl cl : Nat} {t : Tr} {S : Nat → Prop} (H : RefT w g gl cl t) (ht : Turn S w w') (hg : ¬ S g) (hl : ¬ S gl) : RefT w' g gl cl t :=
  ⟨H.blk.turn ht hg, H.own.turn ht fun b e => by cases e; exact hl, H.h1, H.h2, H.k256, H.L256⟩
theorem RefT.lt {w : World} {g gl cl : Nat} {t : Tr} (H : RefT w g gl cl t) : g < w.heap.size ∧ gl < w.heap.size := ⟨H.blk.lt, H.own.lt.1⟩
theorem RefT.below {w w' : World} {g gl cl : Nat} {t : Tr} (H : RefT w g gl cl t) (hb : Below w.heap.size w w') : RefT w' g gl cl t :=
  H.turn (Turn.of_below hb) (by have := H.lt.1; omega) (by have := H.lt.2; omega)
/-- All tags, behind i leaves. -/
def leavesTo (t : Tr) (i m : Nat) : Nat → Nat := if t.n ≤ m ∧ m < t.n + i then t.L (m - t.n) else fun _ => 0
/-- All tags from the j-th on. -/
def tagsFrom (t : Tr) (j m : Nat) : Nat → Nat := if j ≤ m then t.tg m else fun _ => 0
theorem n2 (t : Tr) (h : t.h ≤ 12) : t.n ≤ 4096 := pow_le h
end TrM
end Go.Proofs.YtdmnhpgafbcehaaDoor
set_option maxRecDepth 100000
namespace Go.Proofs.YtdmnhpgafbcehaaDoor
open Go.ChangeShapes Go.WideShapes Go.ChangeAt Go.RowKit
attribute [local go_sem] Gives GivesE
section
variable {ops : Array Oper} {Q : Exit → Act → World → Prop} {a : Act} {w : World} {rest : List Oper} {dst : Option Tmp} {ty r : TypeId} {pos : String} {after : Array Edge} {x y : Operand} {f g : Nat → Nat} {T : TypeId} {n : Nat}
theorem bldZ (hz : Tryd.prog.built T [] = some (ar n fun _ => 0)) (hk : wpList Tryd.prog ops Q rest (a.put dst (.agg (ar n fun _ => 0))) w) :
    wpList Tryd.prog ops Q (⟨dst, .build T #[], ty, pos, after, none⟩ :: rest) a w := by
  have hr : (Instr.build T #[]).run Tryd.prog w = .ok (.agg (ar n fun _ => 0)) w := run_build w _ _ _ hz
  refine wpList_plain rfl fun K hK => ?_
  unfold Oper.wp execOp
  simp [hr, Result.andThen]
  exact hK _ _ hk
theorem ret_art {t : TypeId} {h : Nat} {fn : Func} {R : Ending → World → Prop} {p q : Tmp} {v : Value} (hT : ArT T n) (hr : fn.results = #[.cell p T, .tmp q]) (hp : a.tmps.getD p undef = .pointer (some ⟨h, 0, none⟩)) (hq : a.tmps.getD q undef = v)
    (hdf : a.defers = []) (hb : Blk w h t (ar n f)) (hR : R (.returned (.tuple #[.agg (ar n f), v])) w) : bodyPost Tryd.prog fn R .ret a w := by
  refine bodyPost_ret ?_ hdf hR
  have hp' : a.tmps[p]?.getD undef = .pointer (some ⟨h, 0, none⟩) := by simpa using hp
  have hq' : a.tmps[q]?.getD undef = v := by simpa using hq
  simp [results, hr, hp', hq', asAddr, run_ar_var hT hb]
end
section
variable {ops : Array Oper} {Q : Exit → Act → World → Prop} {a : Act} {w : World} {rest : List Oper} {dst : Option Tmp} {ty T : TypeId} {pos : String} {after : Array Edge} {gd : Option (Nat × Bool)} {R : Value → World → Prop} {cs : Array Value} {ps : Array (Nat × Operand)} {vs : Array (Nat × Value)}
/-- A literal built. -/
theorem wbl (hr : ∀ w, (Instr.build T vs).run Tryd.prog w = .ok (.agg cs) w) (hm : ps.map (fun (i, x) => (i, a.eval x)) = vs) (h : wpList Tryd.prog ops Q rest (a.put dst (.agg cs)) w) :
    wpList Tryd.prog ops Q (⟨dst, .build T ps, ty, pos, after, none⟩ :: rest) a w := by
  refine wpList_plain rfl fun K hK => ?_
  unfold Oper.wp execOp
  simp only [Sem.run_bind, hm, hr, Result.andThen_ok, Sem.run_pure]
  exact hK _ _ h
theorem gE_bl (hr : ∀ w, (Instr.build T vs).run Tryd.prog w = .ok (.agg cs) w) (hm : ps.map (fun (i, x) => (i, a.eval x)) = vs) (hR : R (.agg cs) w) : GivesE Tryd.prog ⟨dst, .build T ps, ty, pos, after, gd⟩ a w R := by
  unfold GivesE
  simp only [execOp, Sem.run_bind, hm, hr, Result.andThen_ok, Sem.run_pure]
  exact hR
theorem gE_bx {x : Operand} (hx : a.eval x = .agg cs) (hR : R (.pointer (some ⟨w.heap.size, 0, none⟩)) (w.alloc (.cells cs T))) : GivesE Tryd.prog ⟨dst, .box T x, ty, pos, after, gd⟩ a w R := by
  unfold GivesE
  simp [execOp, hx, Instr.box, newVar, newRow, Value.cells, Sem.run_bind]
  exact hR
end
section
variable {ops : Array Oper} {Q : Exit → Act → World → Prop} {a : Act} {w : World} {rest : List Oper} {dst : Option Tmp} {ty r T : TypeId} {pos : String} {after : Array Edge} {x y : Operand} {g o n : Nat} {f h' : Nat → Nat} {gd : Option (Nat × Bool)}
/-- A row of bytes loaded, behind a guard. -/
theorem ldAq (hT : ArT T n) (hw : Region.wanted ⟨dst, .load T x, ty, pos, after, gd⟩ (yielded ops a.tmps) = true) (hx : a.eval x = .pointer (some ⟨g, o, none⟩)) (hb : w.rangeAt g o (ar n f).toList) (h : wpList Tryd.prog ops Q rest (a.put dst (.agg (ar n f))) w) :
    wpList Tryd.prog ops Q (⟨dst, .load T x, ty, pos, after, gd⟩ :: rest) a w := by
  have hg : Gives Tryd.prog ⟨dst, .load T x, ty, pos, after, gd⟩ a w (.agg (ar n f)) fun w' => w' = w := gives_value (w' := w) (by simp only [execOp, hx, Sem.run_bind, run_ldm hT hb, Result.andThen_ok, Sem.run_pure]) rfl
  rw [wpList, if_pos hw]
  exact .inl (wp_of_gives hg fun w' e => by subst e; exact h)
/-- Two rows of bytes compared, behind a guard. -/
theorem weqAq (b : Bool) (hT : Tryd.prog.underlying T = some (.array n 5)) (hg : Tryd.prog.eqGuardType Tryd.prog.depth T = false) (hw : Region.wanted ⟨dst, .binOp .eql T x y r, ty, pos, after, gd⟩ (yielded ops a.tmps) = true) (hx : a.eval x = .agg (ar n f)) (hy : a.eval y = .agg (ar n h')) (hb : eqA n f h' = b)
    (h : wpList Tryd.prog ops Q rest (a.put dst (.bool b)) w) : wpList Tryd.prog ops Q (⟨dst, .binOp .eql T x y r, ty, pos, after, gd⟩ :: rest) a w := by
  have h1 : (eqGuard .eql T x y (.agg (ar n f)) (.agg (ar n h'))).run Tryd.prog w = .ok () w := by
    simp [eqGuard, hg, go_sem]
  have hgv : Gives Tryd.prog ⟨dst, .binOp .eql T x y r, ty, pos, after, gd⟩ a w (.bool b) fun w' => w' = w := gives_value (w' := w) (by simp only [execOp, hx, hy, Sem.run_bind, h1, run_eql_ar hT, Result.andThen_ok, Sem.run_pure, hb]) rfl
  rw [wpList, if_pos hw]
  exact .inl (wp_of_gives hgv fun w' e => by subst e; exact h)
end
end Go.Proofs.YtdmnhpgafbcehaaDoor
set_option maxRecDepth 100000
namespace Go.Proofs.YtdmnhpgafbcehaaDoor
open Go.ChangeShapes Go.WideShapes Go.ChangeAt Go.RowKit
namespace TgP
theorem uT : Tryd.prog.underlying 36 = some (.array 32 5) := Tryd.underlying36
theorem uS : Tryd.prog.underlying 50 = some (.array 64 5) := Tryd.underlying50
theorem eqgT : Tryd.prog.eqGuardType Tryd.prog.depth 36 = false := by kernel_rfl
theorem eqgS : Tryd.prog.eqGuardType Tryd.prog.depth 50 = false := by kernel_rfl
end TgP
end Go.Proofs.YtdmnhpgafbcehaaDoor
set_option maxRecDepth 100000
namespace Go.Proofs.YtdmnhpgafbcehaaDoor
open Go.ChangeShapes Go.WideShapes Go.ChangeAt Go.RowKit
attribute [local go_sem] Gives
namespace TrM
open TgP RwP
theorem zT : Tryd.prog.built 36 [] = some (ar 32 fun _ => 0) := by kernel_rfl
theorem zS : Tryd.prog.built 50 [] = some (ar 64 fun _ => 0) := by kernel_rfl
/-- Which numbers there are. -/
def Tr.has (t : Tr) (j : Int) : Prop := 1 ≤ j ∧ j < (2 * t.n : Nat)
/-- Which nodes there are. -/
def Tr.hasN (t : Tr) (j : Int) : Prop := 1 ≤ j ∧ j < (t.n : Nat)
end TrM
end Go.Proofs.YtdmnhpgafbcehaaDoor
set_option maxRecDepth 100000
namespace Go.Proofs.YtdmnhpgafbcehaaDoor
open Go.ChangeShapes Go.WideShapes Go.ChangeAt Go.RowKit
attribute [local go_sem] Gives
namespace TrM
open TgP RwP
/-- Is the sector of j another one in u than in t? -/
def oth (t u : Tr) (j : Nat) : Bool := !eqA 32 (t.tg (2 * j)) (u.tg (2 * j)) || !eqA 32 (t.tg (2 * j + 1)) (u.tg (2 * j + 1))
/-- The numbers of a path's nodes whose sectors are others. -/
def chg (t u : Tr) (leaf : Nat) : List Nat := (pthL t.h leaf).filter (oth t u)
end TrM
end Go.Proofs.YtdmnhpgafbcehaaDoor
set_option maxRecDepth 100000
namespace Go.Proofs.YtdmnhpgafbcehaaDoor
open Go.RowKit
section
variable {P : Program} {ops : Array Oper}
/-- The operations in the order of the text, the k-th first. -/
def wpC (P : Program) (ops : Array Oper) (S : Nat → Value → Prop) (C : (Nat → Bool) → (Nat → Value) → World → Prop) (Q : (Nat → Value) → Act → Prop) : Nat → (Nat → Value) → List Oper → Act → Prop
  | _, vs, [], a => Q vs a
  | k, vs, o :: rest, a => ((Region.wanted o (yielded ops a.tmps) = true ∧ ∀ d w, d k = false → (∀ j, Region.waitsFor .any ops j k = true → d j = false) → (∀ j, Region.waitsFor .any ops k j = true → d j = true) → C d vs w →
      GivesE P o a w fun v w' => S k v ∧ C (upB d k) (updV vs k v) w') ∨
      (Region.wanted o (yielded ops a.tmps) = false ∧ S k undef ∧ (∀ d w, C d vs w → C (upB d k) (updV vs k undef) w))) ∧ (S k (vs k) → wpC P ops S C Q (k + 1) vs rest (a.put o.dst (vs k)))
end
open Go.ChangeShapes Go.WideShapes Go.ChangeAt
/-- A slice of so many elements. -/
def kSl (m : Nat) : Sp := ⟨fun v => ∃ (A : Option Addr) (c : Nat), v = .slice A m c, fun _ _ => True, .slice none m 0⟩
/-- A map. -/
def kMp : Sp := ⟨fun v => ∃ r : Nat, v = .map (some r), fun _ _ => True, .map (some 0)⟩
section
variable {α : Type} {k : Nat} {en : α → List Value} {E L : TypeId} {S : Nat → Prop} {w : World} {a : Act} {dst : Option Tmp} {ty : TypeId} {pos : String} {after : Array Edge} {gd : Option (Nat × Bool)} {R : Value → World → Prop} {o1 o2 : Operand} {v : Value} {l m : List α} {A : Option Addr} {n cap B : Nat}
end
/-- What holds in the midst of an append of one element to a slice of the member's own. -/
structure ApC {α : Type} (E : TypeId) (k : Nat) (en : α → List Value) (w0 : World) (vl : Value) (l : List α) (x : α) (d8 d9 : Bool) (v8 v9 : Value) (w' : World) : Prop where
  t : Turn (fun b => vl.ownBlock = some b) w0 w'
  b : d9 = false → Below w0.heap.size w0 w'
  lit : d8 = true → d9 = false → ∃ A c, v8 = .slice A 1 c ∧ Sli k en (fun b => w0.heap.size ≤ b) w' A [x] 1 c
  own : d9 = true → OwnX E k en w' 0 v9 (l ++ [x]) ∧ ∀ b, v9.ownBlock = some b → vl.ownBlock = some b ∨ w0.heap.size ≤ b
end Go.Proofs.YtdmnhpgafbcehaaDoor
set_option maxRecDepth 100000
namespace Go.Proofs.YtdmnhpgafbcehaaDoor
open Go.ChangeShapes Go.WideShapes Go.ChangeAt Go.RowKit
attribute [local go_sem] Gives GivesE
namespace TrM
open TgP RwP
/-- The sectors of a leaf's path. -/
def prf (t : Tr) (leaf i : Nat) : Nat → Nat := t.nd (pth t.h leaf i)
end TrM
end Go.Proofs.YtdmnhpgafbcehaaDoor
set_option maxRecDepth 100000
namespace Go.Proofs.YtdmnhpgafbcehaaDoor
open Go.ChangeShapes Go.WideShapes Go.ChangeAt Go.RowKit
attribute [local go_sem] Gives GivesE
namespace TrM
open TgP RwP
/-- The leaves of a new tree. -/
def newL (m : Nat) (F : Nat → Nat → Nat) (i : Nat) : Nat → Nat := if i < m then F i else fun _ => 0
/-- A list of zeros that lies somewhere. -/
def spMk (n B : Nat) : Sp := ⟨fun v => ∃ g : Nat, v = .slice (some ⟨g, 0, none⟩) n n, fun v w => ∃ g : Nat, v = .slice (some ⟨g, 0, none⟩) n n ∧ OwnF 36 32 w B (.slice (some ⟨g, 0, none⟩) n n) n fun _ _ => 0, .slice (some ⟨0, 0, none⟩) n n⟩
theorem spMk_ok (n B : Nat) : (spMk n B).ok := ⟨⟨0, rfl⟩, fun v w1 w2 ⟨g, h1, h2⟩ hb => ⟨g, h1, h2.below hb (Nat.le_refl _)⟩⟩
def spBd (k : Nat → Nat) (h n B : Nat) : Sp := ⟨fun v => ∃ g : Nat, v = .agg (trR k h (.slice (some ⟨g, 0, none⟩) n n)), fun v w => ∃ g : Nat, v = .agg (trR k h (.slice (some ⟨g, 0, none⟩) n n)) ∧ OwnF 36 32 w B (.slice (some ⟨g, 0, none⟩) n n) n fun _ _ => 0, .agg (trR k h (.slice (some ⟨0, 0, none⟩) n n))⟩
def spBx (k : Nat → Nat) (h n B : Nat) : Sp := ⟨fun v => ∃ b : Nat, v = .pointer (some ⟨b, 0, none⟩), fun v w => ∃ b g : Nat, v = .pointer (some ⟨b, 0, none⟩) ∧ B ≤ b ∧ Blk w b 78 (trR k h (.slice (some ⟨g, 0, none⟩) n n)) ∧ OwnF 36 32 w B (.slice (some ⟨g, 0, none⟩) n n) n fun _ _ => 0, .pointer (some ⟨0, 0, none⟩)⟩
end TrM
end Go.Proofs.YtdmnhpgafbcehaaDoor
