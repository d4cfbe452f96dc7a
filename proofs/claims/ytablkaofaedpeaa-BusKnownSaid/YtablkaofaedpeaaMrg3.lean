/-
  Entries, steps and pointers as they lie in memory, the program's and the document's.
  The document's member's calls, by what is seen and durable.
  The document's bus: a label as a sector; what it is in memory; is there a member.
  The document's members of a bus, all together.
  The document's crash of all members.
  The document's bus in memory: members, cell, steps, log.
  The document's steps ahead of an I/O.
  An entry of the document's log as a row; what a bus is behind an entry, a member's, the cell's call.
  The document's bus in the midst of an I/O: what it is, what has been turned, and the call's own variables.
  The document's Copy and Same.
  The law CellPlays.
  The document's Read of a bus.
  The document's Cell and Advance of a bus.
  The document's Advance of a bus.
  The document's Write and Flush of a bus.
  Maps of sectors by their places: a block that reads as a function of the place; looked up, written, struck out, cloned.
  Contracts of what the program's member is made of: a sector put into an image, an image's clone, whether a sector is there, the closures.
  The program's member in memory; the calls that turn nothing of it, or one cell.
  The program's settle: unflushed writes made durable, or lost; Flush and Crash.
  The program's Write and Mark.
-/
import Derived.Test.YtablkaofaedpeaaMrg2
import Derived.MapKept
import Derived.Laws.Externs
set_option linter.unusedVariables false
set_option linter.unusedSimpArgs false
set_option maxRecDepth 100000
namespace Go.Proofs.Ytablkaofaedpeaa
open Go.ChangeShapes Go.WideShapes Go.ChangeAt Go.RowKit
attribute [local go_sem] Gives GivesE
namespace BuP
open BuM MbM
def ar64 (f : Nat → Nat) : List Value := (ar 64 f).toList
theorem ar64_len (f : Nat → Nat) : (ar64 f).length = 64 := by unfold ar64; rw [Array.length_toList, size_ar]
theorem ar64_one (f : Nat → Nat) : ∀ u ∈ ar64 f, u.oneCell' = true := fun u hu =>
  Array.all_eq_true_iff_forall_mem.1 (row_one (n := 64) (f := fun j => Value.int .u8 (f j : Nat)) fun _ _ => rfl) u (by simpa [ar64, ar] using hu)
/-- An entry as its 68 cells. -/
def enL (x : Ent) : List Value := .int .i64 x.d :: .int .i64 x.m :: .int .i64 x.i :: (ar64 x.s ++ [.int .i64 x.e])
theorem enL_len (x : Ent) : (enL x).length = 68 := by unfold enL; simp [ar64_len]
theorem enL_one (x : Ent) : ∀ u ∈ enL x, u.oneCell' = true := fun u hu => by
  unfold enL at hu
  simp only [List.mem_cons, List.mem_append, List.not_mem_nil, or_false] at hu
  rcases hu with rfl | rfl | rfl | hu | rfl
  · rfl
  · rfl
  · rfl
  · exact ar64_one _ u hu
  · rfl
theorem eltEnP : EltX 51 68 enL := ⟨by omega, enL_len, enL_one, elt_info (by kernel_rfl) (by kernel_rfl) (by kernel_rfl)⟩
theorem undEnP : Try.prog.underlying 48 = some (.slice 51) := Try.underlying48
/-- A step, and where its picks lie. -/
structure SlB where
  A : Option Addr
  c : Nat
def stL (x : Stp × SlB) : List Value := .int .i64 x.1.a :: .int .i64 x.1.kind :: .int .i64 x.1.m :: .int .i64 x.1.i :: .int .i64 x.1.n :: (ar64 x.1.s ++ [.slice x.2.A x.1.picks.length x.2.c])
theorem stL_len (x : Stp × SlB) : (stL x).length = 70 := by unfold stL; simp [ar64_len]
theorem stL_one (x : Stp × SlB) : ∀ u ∈ stL x, u.oneCell' = true := fun u hu => by
  unfold stL at hu
  simp only [List.mem_cons, List.mem_append, List.not_mem_nil, or_false] at hu
  rcases hu with rfl | rfl | rfl | rfl | rfl | hu | rfl
  · rfl
  · rfl
  · rfl
  · rfl
  · rfl
  · exact ar64_one _ u hu
  · rfl
theorem eltStP : EltX 67 70 stL := ⟨by omega, stL_len, stL_one, elt_info (by kernel_rfl) (by kernel_rfl) (by kernel_rfl)⟩
theorem undStP : Try.prog.underlying 26 = some (.slice 67) := Try.underlying26
/-- A pointer as its cell. -/
def ptL (g : Nat) : List Value := [.pointer (some ⟨g, 0, none⟩)]
theorem ptL_len (g : Nat) : (ptL g).length = 1 := rfl
theorem ptL_one (g : Nat) : ∀ u ∈ ptL g, u.oneCell' = true := fun u hu => by
  unfold ptL at hu
  simp only [List.mem_cons, List.not_mem_nil, or_false] at hu
  subst hu; rfl
theorem eltPtP : EltX 23 1 ptL := ⟨by omega, ptL_len, ptL_one, elt_info (by kernel_rfl) (by kernel_rfl) (by kernel_rfl)⟩
section
variable {w : World} {b o : Nat}
theorem en_d {x : Ent} (h : w.rangeAt b o (enL x)) : w.cell? ⟨b, o, none⟩ = some (.int .i64 x.d) := h 0 _ rfl
theorem en_m {x : Ent} (h : w.rangeAt b o (enL x)) : w.cell? ⟨b, o + 1, none⟩ = some (.int .i64 x.m) := h 1 _ rfl
theorem en_i {x : Ent} (h : w.rangeAt b o (enL x)) : w.cell? ⟨b, o + 2, none⟩ = some (.int .i64 x.i) := h 2 _ rfl
theorem en_s {x : Ent} (h : w.rangeAt b o (enL x)) : w.rangeAt b (o + 3) (ar 64 x.s).toList := fun j v hj => by
  have hl := (List.getElem?_eq_some_iff.1 hj).1
  have := h (j + 3) v (by unfold enL; rw [List.getElem?_cons_succ, List.getElem?_cons_succ, List.getElem?_cons_succ, List.getElem?_append_left (show j < (ar64 _).length from hl)]; exact hj)
  rwa [show o + (j + 3) = o + 3 + j by omega] at this
theorem en_e {x : Ent} (h : w.rangeAt b o (enL x)) : w.cell? ⟨b, o + 67, none⟩ = some (.int .i64 x.e) :=
  h 67 _ (by unfold enL; rw [List.getElem?_cons_succ, List.getElem?_cons_succ, List.getElem?_cons_succ, List.getElem?_append_right (by rw [ar64_len]; exact Nat.le_refl _), ar64_len]; rfl)
theorem st_a {x : Stp × SlB} (h : w.rangeAt b o (stL x)) : w.cell? ⟨b, o, none⟩ = some (.int .i64 x.1.a) := h 0 _ rfl
theorem st_k {x : Stp × SlB} (h : w.rangeAt b o (stL x)) : w.cell? ⟨b, o + 1, none⟩ = some (.int .i64 x.1.kind) := h 1 _ rfl
theorem st_m {x : Stp × SlB} (h : w.rangeAt b o (stL x)) : w.cell? ⟨b, o + 2, none⟩ = some (.int .i64 x.1.m) := h 2 _ rfl
theorem st_i {x : Stp × SlB} (h : w.rangeAt b o (stL x)) : w.cell? ⟨b, o + 3, none⟩ = some (.int .i64 x.1.i) := h 3 _ rfl
theorem st_n {x : Stp × SlB} (h : w.rangeAt b o (stL x)) : w.cell? ⟨b, o + 4, none⟩ = some (.int .i64 x.1.n) := h 4 _ rfl
theorem st_s {x : Stp × SlB} (h : w.rangeAt b o (stL x)) : w.rangeAt b (o + 5) (ar 64 x.1.s).toList := fun j v hj => by
  have hl := (List.getElem?_eq_some_iff.1 hj).1
  have := h (j + 5) v (by unfold stL; rw [List.getElem?_cons_succ, List.getElem?_cons_succ, List.getElem?_cons_succ, List.getElem?_cons_succ, List.getElem?_cons_succ, List.getElem?_append_left (show j < (ar64 _).length from hl)]; exact hj)
  rwa [show o + (j + 5) = o + 5 + j by omega] at this
theorem st_p {x : Stp × SlB} (h : w.rangeAt b o (stL x)) : w.cell? ⟨b, o + 69, none⟩ = some (.slice x.2.A x.1.picks.length x.2.c) :=
  h 69 _ (by unfold stL; rw [List.getElem?_cons_succ, List.getElem?_cons_succ, List.getElem?_cons_succ, List.getElem?_cons_succ, List.getElem?_cons_succ, List.getElem?_append_right (by rw [ar64_len]; exact Nat.le_refl _), ar64_len]; rfl)
theorem pt_p {g : Nat} (h : w.rangeAt b o (ptL g)) : w.cell? ⟨b, o, none⟩ = some (.pointer (some ⟨g, 0, none⟩)) := h 0 _ rfl
end
theorem tStP (x : Stp × SlB) : RowT 67 (stL x).toArray.size := by
  rw [List.size_toArray, stL_len]
  exact ⟨by kernel_rfl, _, Try.underlying67, rfl⟩
theorem tEnP (x : Ent) : RowT 51 (enL x).toArray.size := by
  rw [List.size_toArray, enL_len]
  exact ⟨by kernel_rfl, _, Try.underlying51, rfl⟩
end BuP
end Go.Proofs.Ytablkaofaedpeaa
set_option maxRecDepth 100000
namespace Go.Proofs.Ytablkaofaedpeaa
open Go.ChangeShapes Go.WideShapes Go.ChangeAt Go.RowKit
namespace MbP
open MbM
section
variable {w w' : World} {g : Nat} {L : Nat → Prop} {k : Nat} {st : St}
theorem rdS_lt {st : St} (h : st.ok) (i : Int) : ∀ j, rdS st i j < 256 := fun j => by
  unfold rdS
  split
  · split
    · exact zero_lt j
    · exact seen_lt h i j
  · exact zero_lt j
theorem lkS_lt {st : St} (h : st.ok) (i : Int) : ∀ j, lkS st i j < 256 := fun j => by
  unfold lkS
  split
  · exact h.1 i j
  · exact zero_lt j
end
end MbP
end Go.Proofs.Ytablkaofaedpeaa
set_option maxRecDepth 100000
namespace Go.Proofs.Ytablkaofaedpeaa
open Go.ChangeShapes Go.WideShapes Go.ChangeAt Go.RowKit
attribute [local go_sem] Gives GivesE
namespace BuP
open BuM MbM MbP
/-- The first k bytes of a label, and zeros. -/
def padK (t : Nat → Nat) (k : Nat) : Nat → Nat := fun j => if j < k then t j else 0
theorem padK_0 (t : Nat → Nat) : padK t 0 = fun _ => 0 := funext fun j => if_neg (Nat.not_lt_zero j)
theorem padK_32 (t : Nat → Nat) : padK t 32 = pad t := rfl
/-- The document's bus as its five cells. -/
def buR (Am : Option Addr) (n cm gc : Nat) (As : Option Addr) (ns cs : Nat) (off : Bool) (vl : Value) : Array Value := #[.slice Am n cm, .pointer (some ⟨gc, 0, none⟩), .slice As ns cs, .bool off, vl]
section
variable {w : World} {g n cm gc ns cs : Nat} {Am As : Option Addr} {off : Bool} {vl : Value}
/-- Is there a member, is the power there? -/
def mayN (off : Bool) (n : Nat) (m : Int) : Int := if off then 13 else if decide (0 ≤ m ∧ m < n) then 0 else 2
theorem mayN_may (b : Bs) (m : Int) : mayN b.off b.ms.length m = may b m := rfl
end
end BuP
end Go.Proofs.Ytablkaofaedpeaa
set_option maxRecDepth 100000
namespace Go.Proofs.Ytablkaofaedpeaa
open Go.ChangeShapes Go.WideShapes Go.ChangeAt Go.RowKit
attribute [local go_sem] Gives GivesE
namespace BuP
open BuM MbM MbP
section
variable {w w' : World} {gs : List Nat} {Ls : Nat → Nat → Prop} {k : Nat → Nat} {ms : List St}
end
end BuP
end Go.Proofs.Ytablkaofaedpeaa
set_option maxRecDepth 100000
namespace Go.Proofs.Ytablkaofaedpeaa
open Go.ChangeShapes Go.WideShapes Go.ChangeAt Go.RowKit
attribute [local go_sem] Gives GivesE
namespace BuP
open BuM MbM MbP
def byL (x : Nat) : List Value := [.int .u8 (x : Nat)]
theorem eltBy : EltX 5 1 byL where
  pos := by omega
  len _ := rfl
  one x u hu := by
    unfold byL at hu
    rw [List.mem_singleton] at hu
    subst hu; rfl
  info := elt_info (by kernel_rfl) (by kernel_rfl) (by kernel_rfl)
theorem undBy : Try.prog.underlying 65 = some (.slice 5) := Try.underlying65
theorem sli_arg {w : World} {S : Nat → Prop} {A : Option Addr} {l : List Nat} {n c : Nat} (h : Sli 1 byL S w A l n c) (hb : B256 l) : Arg w A l n c where
  len := h.len
  cap := h.cap
  max := h.max
  b256 := hb
  none := h.none
  byt hn := by
    obtain ⟨b, o, e, _, hl, hr⟩ := h.lst hn
    refine ⟨b, o, e, hl, fun i hi => ?_⟩
    have := hr i l[i] (List.getElem?_eq_getElem hi) 0 _ rfl
    rw [Nat.mul_one, Nat.add_zero] at this
    rw [this, List.getD_eq_getElem?_getD, List.getElem?_eq_getElem hi]; rfl
theorem take_one {l : List Nat} {a j : Nat} (h : a + j < l.length) : (l.drop a).take (j + 1) = (l.drop a).take j ++ [l[a + j]] := by
  rw [List.take_add_one, List.getElem?_drop, List.getElem?_eq_getElem h]; rfl
end BuP
end Go.Proofs.Ytablkaofaedpeaa
set_option maxRecDepth 100000
namespace Go.Proofs.Ytablkaofaedpeaa
open Go.ChangeShapes Go.WideShapes Go.ChangeAt Go.RowKit
attribute [local go_sem] Gives GivesE
theorem Blk.neT {w : World} {g h : Nat} {t u : TypeId} {cs ds : Array Value} (H : Blk w g t cs) (K : Blk w h u ds) (e : t ≠ u) : g ≠ h := fun x => by
  subst x
  have h1 : w.heap[g]? = some (.cells cs t (0, 0)) := H
  have h2 : w.heap[g]? = some (.cells ds u (0, 0)) := K
  rw [h1] at h2
  simp only [Option.some.injEq, Obj.cells.injEq] at h2
  exact e h2.2.1
namespace BuP
open BuM MbM MbP
/-- Where all of it lies. -/
structure Fp where
  gs : List Nat
  Ls : Nat → Nat → Prop
  Am : Option Addr
  cm : Nat
  gc : Nat
  As : Option Addr
  cs : Nat
  sl : List SlB
  rd : Nat → Prop
  vc : Value
  hist : List ClP.Held
  vl : Value
def mutR (g : Nat) (F : Fp) (q : Nat) : Prop := q = g ∨ q ∈ F.gs ∨ q = F.gc ∨ F.vc.ownBlock = some q ∨ F.vl.ownBlock = some q
def rdR (F : Fp) (q : Nat) : Prop := F.rd q ∨ ∃ j, j < F.gs.length ∧ F.Ls j q
section
variable {w w' : World} {g k : Nat} {F : Fp} {b : Bs}
/-! What is turned lies apart, by its kinds. -/
end
end BuP
end Go.Proofs.Ytablkaofaedpeaa
set_option maxRecDepth 100000
namespace Go.Proofs.Ytablkaofaedpeaa
open Go.ChangeShapes Go.WideShapes Go.ChangeAt Go.RowKit
attribute [local go_sem] Gives GivesE
namespace BuP
open BuM MbM MbP
def st0 : Stp × SlB := (⟨0, 0, 0, 0, 0, fun _ => 0, []⟩, ⟨none, 0⟩)
theorem st_size (x y : Stp × SlB) : (stL x).toArray.size = (stL y).toArray.size := by rw [List.size_toArray, List.size_toArray, stL_len, stL_len]
theorem st_one' (x : Stp × SlB) : (stL x).toArray.all (·.oneCell') = true := by
  rw [Array.all_eq_true_iff_forall_mem]
  intro u hu
  exact stL_one x u (by simpa using hu)
section
variable {w0 wr w3 : World} {g k i : Nat} {F : Fp} {b : Bs} {Ls' Ls2 : Nat → Nat → Prop} {ms' ms2 : List St} {off' off2 : Bool} {s : Stp}
end
end BuP
end Go.Proofs.Ytablkaofaedpeaa
set_option maxRecDepth 100000
namespace Go.Proofs.Ytablkaofaedpeaa
open Go.ChangeShapes Go.WideShapes Go.ChangeAt Go.RowKit
attribute [local go_sem] Gives GivesE
namespace BuP
open BuM MbM MbP
def enF (x : Ent) (j : Nat) : Value := if j = 0 then .int .i64 x.d else if j = 1 then .int .i64 x.m else if j = 2 then .int .i64 x.i else if j = 67 then .int .i64 x.e else .int .u8 (x.s (j - 3) : Nat)
theorem en_row (x : Ent) : (enL x).toArray = row 68 (enF x) := by
  apply Array.ext'
  apply List.ext_getElem?
  intro j
  rw [Array.getElem?_toList, Array.getElem?_toList, List.getElem?_toArray]
  by_cases hj : j < 68
  · rw [get_row_lt hj]
    unfold enF enL
    rcases j with _ | _ | _ | j
    · rfl
    · rfl
    · rfl
    · rw [List.getElem?_cons_succ, List.getElem?_cons_succ, List.getElem?_cons_succ, if_neg (by omega), if_neg (by omega), if_neg (by omega)]
      by_cases e : j = 64
      · subst e
        rw [if_pos rfl, List.getElem?_append_right (by rw [ar64_len]; exact Nat.le_refl _), ar64_len]; rfl
      · rw [if_neg (by omega), List.getElem?_append_left (by rw [ar64_len]; omega), ar64, Array.getElem?_toList, ar, get_row_lt (by omega)]; rfl
  · rw [List.getElem?_eq_none (by rw [enL_len]; omega), Array.getElem?_eq_none (by rw [size_row]; omega)]
theorem en_setE {w : World} {g : Nat} {t : TypeId} {x : Ent} (h : Blk w g t (enL x).toArray) (e : Int) : Blk (w.setCell ⟨g, 67, none⟩ (.int .i64 e)) g t (enL { x with e := e }).toArray := by
  rw [en_row] at h ⊢
  have h1 := h.setCell_same 67 (.int .i64 e)
  rw [row_set, row_ext (g := enF { x with e := e }) fun j hj => by
    unfold enF
    by_cases e1 : j = 67
    · subst e1; rfl
    · rw [if_neg e1, if_neg e1, if_neg e1]] at h1
  exact h1
theorem en_setS {w : World} {g : Nat} {t : TypeId} {x : Ent} (h : Blk w g t (enL x).toArray) (s : Nat → Nat) : Blk (w.setCells g 3 (ar 64 s).toList) g t (enL { x with s := s }).toArray := by
  rw [en_row] at h ⊢
  have h1 := (blk_setCells (ar 64 s).toList 3 w (enF x) h (by rw [Array.length_toList, size_ar]; omega)).1
  rw [row_ext (g := enF { x with s := s }) fun j hj => by
    rw [Array.length_toList, size_ar]
    unfold enF
    by_cases e : 3 ≤ j ∧ j < 3 + 64
    · rw [if_pos e, if_neg (by omega), if_neg (by omega), if_neg (by omega), if_neg (by omega)]
      have : (ar 64 s).toList[j - 3]? = some (.int .u8 (s (j - 3) : Nat)) := by
        rw [Array.getElem?_toList, ar, get_row_lt (by omega)]
      rw [List.getD_eq_getElem?_getD, this]; rfl
    · rw [if_neg e]
      by_cases e0 : j = 0
      · rw [if_pos e0, if_pos e0]
      · by_cases e1 : j = 1
        · rw [if_neg e0, if_neg e0, if_pos e1, if_pos e1]
        · by_cases e2 : j = 2
          · rw [if_neg e0, if_neg e0, if_neg e1, if_neg e1, if_pos e2, if_pos e2]
          · rw [if_neg e0, if_neg e0, if_neg e1, if_neg e1, if_neg e2, if_neg e2, if_pos (by omega), if_pos (by omega)]] at h1
  exact h1
theorem en_there {w : World} {g : Nat} {t : TypeId} {x : Ent} (h : Blk w g t (enL x).toArray) {o n : Nat} (hm : o + n ≤ 68) : w.there g o n := there_of (t := t) (cur := (enL x).toArray) h (by rw [List.size_toArray, enL_len]; exact hm)
theorem en_qe {w : World} {g : Nat} {t : TypeId} {x : Ent} (h : Blk w g t (enL x).toArray) : w.cell? ⟨g, 67, none⟩ = some (.int .i64 x.e) := en_e (o := 0) (x := x) h.whole
theorem en_qs {w : World} {g : Nat} {t : TypeId} {x : Ent} (h : Blk w g t (enL x).toArray) : w.rangeAt g 3 (ar 64 x.s).toList := en_s (o := 0) (x := x) h.whole
def en0 : Ent := ⟨0, 0, 0, fun _ => 0, 0⟩
theorem en_size (x y : Ent) : (enL x).toArray.size = (enL y).toArray.size := by rw [List.size_toArray, List.size_toArray, enL_len, enL_len]
theorem en_one' (x : Ent) : (enL x).toArray.all (·.oneCell') = true := by
  rw [Array.all_eq_true_iff_forall_mem]
  intro u hu
  exact enL_one x u (by simpa using hu)
section
variable {ops : Array Oper} {Q : Exit → Act → World → Prop} {a : Act} {w : World} {rest : List Oper} {dst : Option Tmp} {ty : TypeId} {pos : String} {after : Array Edge} {x y z : Operand} {m i : Int} {s : Nat → Nat}
end
section
variable {w w' : World} {g k : Nat} {F : Fp} {b : Bs}
end
theorem may_zero {b : Bs} {m : Int} (h : BuM.may b m = 0) : b.off = false ∧ ∃ mi : Nat, m = mi ∧ mi < b.ms.length := by
  unfold BuM.may at h
  cases ho : b.off with
  | true => rw [ho, if_pos rfl] at h; cases h
  | false =>
    rw [ho, if_neg Bool.false_ne_true] at h
    cases hm : mem b.ms m with
    | false => rw [hm, if_neg Bool.false_ne_true] at h; cases h
    | true =>
      unfold mem at hm
      simp only [decide_eq_true_eq] at hm
      obtain ⟨mi, rfl⟩ : ∃ mi : Nat, m = mi := Int.eq_ofNat_of_zero_le (by omega)
      exact ⟨rfl, mi, rfl, by omega⟩
theorem at_of {l : List St} {mi : Nat} {st : St} (h : l[mi]? = some st) : BuM.at' l (mi : Int) = st := by
  unfold BuM.at'; rw [Int.toNat_natCast, List.getD_eq_getElem?_getD, h]; rfl
end BuP
end Go.Proofs.Ytablkaofaedpeaa
set_option maxRecDepth 100000
namespace Go.Proofs.Ytablkaofaedpeaa
open Go.ChangeShapes Go.WideShapes Go.ChangeAt Go.RowKit
attribute [local go_sem] Gives GivesE
namespace BuP
open BuM MbM MbP
section
variable {w0 w w' : World} {g k k' : Nat} {F0 F F' : Fp} {b b' : Bs} {V : Nat → Prop}
end
end BuP
end Go.Proofs.Ytablkaofaedpeaa
set_option maxRecDepth 100000
namespace Go.Proofs.Ytablkaofaedpeaa
open Go.ChangeShapes Go.WideShapes Go.ChangeAt Go.RowKit
attribute [local go_sem] Gives GivesE
namespace ClP
section
variable {w : World} {g : Nat} {v : Value} {L : List Held} {h : Held}
end
end ClP
end Go.Proofs.Ytablkaofaedpeaa
set_option maxRecDepth 100000
namespace Go.Proofs.Ytablkaofaedpeaa
open Go.ChangeShapes Go.WideShapes Go.ChangeAt Go.RowKit
attribute [local go_sem] Gives GivesE
namespace ClP
section
variable {rep : RepC} {B g gr g0 gr0 : Nat} {w w' : World} {M I M0 I0 : Cs} {v v0 : Value} {L L0 L' : List Held} {h h0 h' : Held}
end
section
variable {a : Act} {w : World} {dst : Option Tmp} {ty r T : TypeId} {pos : String} {after : Array Edge} {x y : Operand} {gd : Option (Nat × Bool)} {p q : Held} {R : Value → World → Prop} {g o : Nat} {cs : Array Value}
theorem gE_ldR (hT : RowT T cs.size) (hx : a.eval x = .pointer (some ⟨g, o, none⟩)) (hb : w.rangeAt g o cs.toList) (hR : R (.agg cs) w) : GivesE Try.prog ⟨dst, .load T x, ty, pos, after, gd⟩ a w R := by
  unfold GivesE
  simp only [execOp, hx, Sem.run_bind, run_ldR hT hb, Result.andThen_ok, Sem.run_pure]
  exact hR
theorem gE_neC (hx : a.eval x = .agg (ceL p).toArray) (hy : a.eval y = .agg (ceL q).toArray) (hR : R (.bool (!ceq p q)) w) : GivesE Try.prog ⟨dst, .binOp .neq 43 x y r, ty, pos, after, gd⟩ a w R := by
  unfold GivesE
  rw [exec_neC hx hy]
  exact hR
end
/-- What holds while a history is asked, and held against the document's. -/
structure HsC (w0 : World) (L : List Held) (d : Bool) (v : Value) (w' : World) : Prop where
  b : Below w0.heap.size w0 w'
  s : d = true → ∃ A c, v = .slice A L.length c ∧ Sli 33 ceL (fun _ => True) w' A L L.length c
theorem HsC.on {w0 w1 w2 : World} {L : List Held} {d : Bool} {v : Value} (h : HsC w0 L d v w1) (hb : Below w1.heap.size w1 w2) : HsC w0 L d v w2 :=
  ⟨h.b.trans (hb.mono h.b.size), fun e => by
    obtain ⟨A, c, h1, h2⟩ := h.s e
    exact ⟨A, c, h1, h2.turn (Turn.of_new (S := fun _ => False) hb) fun _ _ _ e => e⟩⟩
end ClP
end Go.Proofs.Ytablkaofaedpeaa
set_option maxRecDepth 100000
namespace Go.Proofs.Ytablkaofaedpeaa
open Go.ChangeShapes Go.WideShapes Go.ChangeAt Go.RowKit
attribute [local go_sem] Gives GivesE
namespace BuP
open BuM MbM MbP
section
variable {a : Act} {w : World} {dst : Option Tmp} {ty T : TypeId} {pos : String} {after : Array Edge} {gd : Option (Nat × Bool)} {R : Value → World → Prop} {x y : Operand} {g n : Nat} {t : TypeId} {f f0 : Nat → Nat} {cs old : Array Value}
theorem gE_stA (hT : ArT T n) (hx : a.eval x = .pointer (some ⟨g, 0, none⟩)) (hy : a.eval y = .agg (ar n f)) (hb : Blk w g t (ar n f0)) (hR : R undef (w.setRow g (ar n f))) : GivesE Try.prog ⟨dst, .store T x y, ty, pos, after, gd⟩ a w R := by
  have h1 := run_st_ar hT hb f
  unfold GivesE execOp
  simp only [Sem.run_bind, hx, hy, h1, Result.andThen_ok, Sem.run_pure]
  exact hR
theorem gE_stR (hT : RowT T cs.size) (hx : a.eval x = .pointer (some ⟨g, 0, none⟩)) (hy : a.eval y = .agg cs) (hb : Blk w g t old) (hs : old.size = cs.size) (h1 : cs.all (·.oneCell') = true) (hR : R undef (w.setRow g cs)) : GivesE Try.prog ⟨dst, .store T x y, ty, pos, after, gd⟩ a w R := by
  have h2 := run_storeVar_row (P := Try.prog) w g t T old cs hb hT.size hs h1
  unfold GivesE execOp
  simp only [Sem.run_bind, hx, hy, Instr.storeAt, Instr.sureAddr, h2, Result.andThen_ok, Sem.run_pure]
  exact hR
end
/-- What holds while a sector is told. -/
structure ResC (w0 : World) (gR : Nat) (s : Nat → Nat) (d : Bool) (w' : World) : Prop where
  t : Turn (fun q => q = gR) w0 w'
  b : Blk w' gR 30 (ar 64 (if d then s else fun _ => 0))
theorem ResC.put {w0 w' : World} {gR : Nat} {s : Nat → Nat} {d : Bool} (h : ResC w0 gR s d w') : ResC w0 gR s true (w'.setRow gR (ar 64 s)) :=
  ⟨h.t.trans (Turn.setRow (S := fun q => q = gR) _ _ _ rfl) fun q e => .inl e, by rw [if_pos rfl]; exact h.b.setRow_same _⟩
theorem tSeR {s : Nat → Nat} : RowT 30 (ar 64 s).size := by rw [size_ar]; exact ⟨by kernel_rfl, _, Try.underlying30, rfl⟩
end BuP
end Go.Proofs.Ytablkaofaedpeaa
set_option maxRecDepth 100000
namespace Go.Proofs.Ytablkaofaedpeaa
open Go.ChangeShapes Go.WideShapes Go.ChangeAt Go.RowKit
attribute [local go_sem] Gives GivesE
namespace BuP
open BuM MbM MbP
theorem ret_rowt2 {a : Act} {w : World} {g : Nat} {t T : TypeId} {cs : Array Value} {fn : Func} {R : Ending → World → Prop} {p q : Tmp} {v : Value} (hT : RowT T cs.size) (hr : fn.results = #[.cell p T, .tmp q]) (hp : a.tmps.getD p undef = .pointer (some ⟨g, 0, none⟩))
    (hq : a.tmps.getD q undef = v) (hdf : a.defers = []) (hb : Blk w g t cs) (hR : R (.returned (.tuple #[.agg cs, v])) w) : bodyPost Try.prog fn R .ret a w := by
  obtain ⟨d, h1, h2⟩ := hT.desc
  refine bodyPost_ret ?_ hdf hR
  have hv : (loadVar T ⟨g, 0, none⟩).run Try.prog w = .ok (.agg cs) w := run_loadVar_row w g _ _ cs (0, 0) _ hb h1 (by cases d <;> first | rfl | exact h2) hT.size
  have hp' : a.tmps[p]?.getD undef = .pointer (some ⟨g, 0, none⟩) := by simpa using hp
  have hq' : a.tmps[q]?.getD undef = v := by simpa using hq
  simp [results, hr, hp', hq', asAddr, hv]
/-- What holds while a cell is told. -/
structure ResQ (w0 : World) (gR : Nat) (h : ClP.Held) (d : Bool) (w' : World) : Prop where
  t : Turn (fun q => q = gR) w0 w'
  b : Blk w' gR 43 (ClP.ceL (if d then h else (0, ClP.zero))).toArray
theorem ResQ.put {w0 w' : World} {gR : Nat} {h : ClP.Held} {d : Bool} (H : ResQ w0 gR h d w') : ResQ w0 gR h true (w'.setRow gR (ClP.ceL h).toArray) :=
  ⟨H.t.trans (Turn.setRow (S := fun q => q = gR) _ _ _ rfl) fun q e => .inl e, by rw [if_pos rfl]; exact H.b.setRow_same _⟩
end BuP
end Go.Proofs.Ytablkaofaedpeaa
set_option maxRecDepth 100000
namespace Go.Proofs.Ytablkaofaedpeaa
open Go.ChangeShapes Go.WideShapes Go.ChangeAt Go.RowKit
attribute [local go_sem] Gives GivesE
namespace BuP
open BuM MbM MbP
end BuP
end Go.Proofs.Ytablkaofaedpeaa
set_option maxRecDepth 100000
namespace Go.Proofs.Ytablkaofaedpeaa
open Go.ChangeShapes Go.WideShapes Go.ChangeAt Go.RowKit
attribute [local go_sem] Gives GivesE
namespace BuP
open BuM MbM MbP
end BuP
end Go.Proofs.Ytablkaofaedpeaa
set_option maxRecDepth 100000
namespace Go.Proofs.Ytablkaofaedpeaa
open Go.ChangeShapes Go.WideShapes Go.ChangeAt Go.RowKit
attribute [local go_sem] Gives
namespace MbP
open MbM
abbrev Ent := Int × (Nat → Nat)
def look : List Ent → Int → Nat → Option (Nat × (Nat → Nat))
  | [], _, _ => none
  | p :: l, i, n => if p.1 = i then some (n, p.2) else look l i (n + 1)
def putE : List Ent → Int → (Nat → Nat) → List Ent
  | [], i, s => [(i, s)]
  | p :: l, i, s => if p.1 = i then (i, s) :: l else p :: putE l i s
def delE : List Ent → Int → List Ent
  | [], _ => []
  | p :: l, i => if p.1 = i then l else p :: delE l i
def getE : List Ent → Int → Nat → Nat
  | [], _ => zero
  | p :: l, i => if p.1 = i then p.2 else getE l i
theorem look_get (i : Int) : ∀ (l : List Ent) (n : Nat), ((look l i n).map (·.2)).getD zero = getE l i
  | [], n => rfl
  | p :: l, n => by
    unfold look getE
    split
    · rfl
    · exact look_get i l (n + 1)
theorem look_some {i : Int} : ∀ {l : List Ent} {n : Nat} {q : Nat × (Nat → Nat)}, look l i n = some q → ∃ d, q.1 = n + d ∧ l[d]? = some (i, q.2) ∧ (∀ s, l.set d (i, s) = putE l i s) ∧ l.eraseIdx d = delE l i
  | [], n, q, h => by cases h
  | p :: l, n, q, h => by
    unfold look at h
    by_cases e : p.1 = i
    · rw [if_pos e] at h
      cases h
      refine ⟨0, rfl, ?_, fun s => ?_, ?_⟩
      · show some p = _; rw [← e]
      · show _ :: _ = _; unfold putE; rw [if_pos e]
      · show l = _; unfold delE; rw [if_pos e]
    · rw [if_neg e] at h
      obtain ⟨d, h1, h2, h3, h4⟩ := look_some h
      refine ⟨d + 1, by omega, h2, fun s => ?_, ?_⟩
      · rw [List.set_cons_succ, h3, putE, if_neg e]
      · rw [List.eraseIdx_cons_succ, h4, delE, if_neg e]
theorem look_none {i : Int} : ∀ {l : List Ent} {n : Nat}, look l i n = none → (∀ s, putE l i s = l ++ [(i, s)]) ∧ delE l i = l
  | [], n, h => ⟨fun s => rfl, rfl⟩
  | p :: l, n, h => by
    unfold look at h
    by_cases e : p.1 = i
    · rw [if_pos e] at h; cases h
    · rw [if_neg e] at h
      obtain ⟨h1, h2⟩ := look_none h
      exact ⟨fun s => by rw [putE, if_neg e, h1]; rfl, by rw [delE, if_neg e, h2]⟩
theorem get_put (i : Int) (s : Nat → Nat) (j : Int) : ∀ l : List Ent, getE (putE l i s) j = if j = i then s else getE l j
  | [] => by
    unfold putE getE getE
    by_cases e : j = i
    · rw [if_pos e.symm, if_pos e]
    · rw [if_neg fun h => e h.symm, if_neg e]
  | p :: l => by
    unfold putE
    by_cases e : p.1 = i
    · rw [if_pos e]
      unfold getE
      by_cases h : j = i
      · rw [if_pos h.symm, if_pos h]
      · rw [if_neg fun x => h x.symm, if_neg h, if_neg fun x => h (x.symm.trans e)]
    · rw [if_neg e]
      unfold getE
      by_cases h : p.1 = j
      · rw [if_pos h, if_pos h, if_neg fun x => e (h.trans x)]
      · rw [if_neg h, if_neg h]; exact get_put i s j l
theorem get_out {i : Int} : ∀ {l : List Ent}, i ∉ l.map (·.1) → getE l i = zero
  | [], _ => rfl
  | p :: l, h => by
    rw [List.map_cons, List.mem_cons, not_or] at h
    unfold getE
    rw [if_neg fun e => h.1 e.symm]
    exact get_out h.2
theorem get_del (i j : Int) : ∀ l : List Ent, (l.map (·.1)).Nodup → getE (delE l i) j = if j = i then zero else getE l j
  | [], _ => by unfold delE getE; split <;> rfl
  | p :: l, h => by
    rw [List.map_cons, List.nodup_cons] at h
    unfold delE
    by_cases e : p.1 = i
    · rw [if_pos e]
      by_cases hj : j = i
      · rw [if_pos hj, hj]; exact get_out (e ▸ h.1)
      · rw [if_neg hj]
        conv => rhs; unfold getE
        rw [if_neg fun x => hj (x.symm.trans e)]
    · rw [if_neg e]
      unfold getE
      by_cases hp : p.1 = j
      · rw [if_pos hp, if_pos hp, if_neg fun x => e (hp.trans x)]
      · rw [if_neg hp, if_neg hp]; exact get_del i j l h.2
theorem del_sub (i : Int) : ∀ l : List Ent, (delE l i).Sublist l
  | [] => List.Sublist.refl _
  | p :: l => by
    unfold delE
    split
    · exact List.sublist_cons_self p l
    · exact (del_sub i l).cons_cons p
theorem nodup_del {i : Int} {l : List Ent} (h : (l.map (·.1)).Nodup) : ((delE l i).map (·.1)).Nodup := List.Nodup.sublist ((del_sub i l).map _) h
theorem mem_put {i k : Int} {s : Nat → Nat} : ∀ {l : List Ent}, k ∈ (putE l i s).map (·.1) → k = i ∨ k ∈ l.map (·.1)
  | [], h => by simpa [putE] using h
  | p :: l, h => by
    unfold putE at h
    by_cases e : p.1 = i
    · rw [if_pos e, List.map_cons, List.mem_cons] at h
      exact h.imp id fun x => List.mem_cons_of_mem _ x
    · rw [if_neg e, List.map_cons, List.mem_cons] at h
      rcases h with h | h
      · exact .inr (by rw [List.map_cons, h]; exact List.mem_cons_self)
      · exact (mem_put h).imp id fun x => List.mem_cons_of_mem _ x
theorem nodup_put {i : Int} {s : Nat → Nat} : ∀ {l : List Ent}, (l.map (·.1)).Nodup → ((putE l i s).map (·.1)).Nodup
  | [], _ => by simp [putE]
  | p :: l, h => by
    rw [List.map_cons, List.nodup_cons] at h
    unfold putE
    by_cases e : p.1 = i
    · rw [if_pos e, List.map_cons, List.nodup_cons]
      exact ⟨e ▸ h.1, h.2⟩
    · rw [if_neg e, List.map_cons, List.nodup_cons]
      exact ⟨fun x => (mem_put x).elim e h.1, nodup_put h.2⟩
/-- What is keyed, and by what. -/
def kvE (e : MapEntry) : Value × Value := (e.key, e.val)
def kvP (p : Ent) : Value × Value := (.int .i64 p.1, .agg (ar 64 p.2))
theorem find_now (i : Int) : ∀ (es : List MapEntry) (l : List Ent) (n : Nat), es.map kvE = l.map kvP → Instr.findNow (.int .i64) (.int .i64 i) es n = some ((look l i n).map fun q => (q.1, Value.agg (ar 64 q.2)))
  | [], [], n, _ => rfl
  | [], _ :: _, n, h => by simp at h
  | _ :: _, [], n, h => by simp at h
  | e :: es, p :: l, n, h => by
    simp only [List.map_cons, List.cons.injEq] at h
    obtain ⟨h1, h2⟩ := h
    have hk : e.key = .int .i64 p.1 := congrArg Prod.fst h1
    have hv : e.val = .agg (ar 64 p.2) := congrArg Prod.snd h1
    unfold Instr.findNow look
    rw [hk, hv]
    by_cases e' : p.1 = i
    · have : (i == p.1) = true := by simp [e']
      simp [Instr.sameNow, this, e']
    · have : (i == p.1) = false := by simp; exact fun h => e' h.symm
      simp only [Instr.sameNow, this, if_neg e', if_true]
      exact find_now i es l (n + 1) h2
/-- Block r is a map of sectors that reads as F. -/
def MapB (w : World) (r : Nat) (F : Img) : Prop := ∃ es clock l, w.heap[r]? = some (.map es clock) ∧ es.toList.map kvE = l.map kvP ∧ (l.map (·.1)).Nodup ∧ ∀ i k, k < 64 → getE l i k = F i k
section
variable {w w' : World} {r : Nat} {F G : Img} {T : Nat → Prop}
theorem MapB.lt (h : MapB w r F) : r < w.heap.size := by
  obtain ⟨es, c, l, h1, _⟩ := h
  exact (Array.getElem?_eq_some_iff.1 h1).1
theorem MapB.turn (h : MapB w r F) (ht : Turn T w w') (hr : ¬ T r) : MapB w' r F := by
  have hl := h.lt
  obtain ⟨es, c, l, h1, h2⟩ := h
  exact ⟨es, c, l, (ht.block r hl hr).trans h1, h2⟩
theorem MapB.below (h : MapB w r F) (hb : Below w.heap.size w w') : MapB w' r F := h.turn (Turn.of_below hb) (by have := h.lt; omega)
theorem MapB.congr (h : MapB w r F) (e : ∀ i k, k < 64 → F i k = G i k) : MapB w r G := by
  obtain ⟨es, c, l, h1, h2, h3, h4⟩ := h
  exact ⟨es, c, l, h1, h2, h3, fun i k hk => (h4 i k hk).trans (e i k hk)⟩
theorem MapB.new (w : World) : MapB (w.alloc (.map #[] 0)) w.heap.size fun _ => zero := ⟨#[], 0, [], heap_alloc_new w _, rfl, List.nodup_nil, fun _ _ _ => rfl⟩
theorem MapB.twin (h : MapB w r F) : ∃ es clock, w.heap[r]? = some (.map es clock) ∧ ∀ w' r', w'.heap[r']? = some (.map es clock) → MapB w' r' F := by
  obtain ⟨es, c, l, h1, h2⟩ := h
  exact ⟨es, c, h1, fun w' r' e => ⟨es, c, l, e, h2⟩⟩
theorem ar_get {l : List Ent} {F : Img} (h : ∀ i k, k < 64 → getE l i k = F i k) (i : Int) : ar 64 (getE l i) = ar 64 (F i) := ar_ext fun k hk => h i k hk
end
theorem undImg : Try.prog.underlying 89 = some (.map 3 30) := Try.underlying89
theorem undInt : Try.prog.underlying 3 = some (.int .i64) := Try.underlying3
section
variable {w : World} {r : Nat} {F : Img}
theorem run_chk' (b : Bool) (n : Nat) (i : Int) (w : World) : (Instr.checkKey b (n + 1) 3 (.int .i64 i)).run Try.prog w = .ok () w := by
  unfold Instr.checkKey
  simp [run_underlying undInt, Result.andThen]
theorem run_chk (b : Bool) (i : Int) (w : World) : (Instr.checkKey b 10000 3 (.int .i64 i)).run Try.prog w = .ok () w := run_chk' b 9999 i w
theorem map_mod {α β : Type} {f : α → β} {g : α → α} {v : β} (hg : ∀ x, f (g x) = v) : ∀ (l : List α) (d : Nat), (l.modify d g).map f = (l.map f).set d v
  | [], d => by simp
  | x :: l, 0 => by simp [hg]
  | x :: l, d + 1 => by simp [map_mod hg l d]
theorem map_era {α β : Type} (f : α → β) : ∀ (l : List α) (d : Nat), (l.eraseIdx d).map f = (l.map f).eraseIdx d
  | [], d => by simp
  | x :: l, 0 => by simp
  | x :: l, d + 1 => by simp [map_era f l d]
theorem run_find {es : Array MapEntry} {l : List Ent} (h : es.toList.map kvE = l.map kvP) (i : Int) (w : World) : (Instr.findKey 3 (.int .i64 i) es.toList).run Try.prog w = .ok ((look l i 0).map fun q => (q.1, Value.agg (ar 64 q.2))) w := by
  simp [Instr.findKey, run_underlying undInt, Result.andThen, find_now i es.toList l 0 h]
theorem run_look (h : MapB w r F) (i : Int) : (Instr.lookup 89 (.map (some r)) (.int .i64 i) false).run Try.prog w = .ok (.agg (ar 64 (F i))) w := by
  obtain ⟨es, c, l, h1, h2, h3, h4⟩ := h
  have e := look_get i l 0
  cases hl : look l i 0 with
  | none =>
    rw [hl] at e
    have e2 : zero = getE l i := e
    have e3 : ar 64 (fun _ => 0) = ar 64 (F i) := ((by rw [← e2]; rfl : ar 64 (fun _ => 0) = ar 64 (getE l i))).trans (ar_get h4 i)
    simp [Instr.lookup, run_underlying undImg, MapKept.run_getObj_map h1, run_chk, run_find h2, hl, Result.andThen, tSe.zero w, e3]
  | some q =>
    rw [hl] at e
    have e2 : q.2 = getE l i := e
    have e3 : ar 64 q.2 = ar 64 (F i) := by rw [e2]; exact ar_get h4 i
    simp [Instr.lookup, run_underlying undImg, MapKept.run_getObj_map h1, run_chk, run_find h2, hl, Result.andThen, e3]
theorem turn_set (w : World) (r : Nat) (o : Obj) : Turn (fun b => b = r) w { w with heap := w.heap.setIfInBounds r o } := ⟨rfl, rfl, rfl, by simp, fun k _ hk => by
  show (w.heap.setIfInBounds r o)[k]? = _
  rw [Array.getElem?_setIfInBounds_ne fun e => hk e.symm]⟩
theorem run_put (h : MapB w r F) (i : Int) (s : Nat → Nat) : ∃ w', (Instr.mapUpdate 89 (.map (some r)) (.int .i64 i) (.agg (ar 64 s))).run Try.prog w = .ok () w' ∧ MapB w' r (upd F ⟨i, s⟩) ∧ Turn (fun b => b = r) w w' := by
  have hlt := h.lt
  obtain ⟨es, c, l, h1, h2, h3, h4⟩ := h
  have hval : ∀ j k, k < 64 → getE (putE l i s) j k = upd F ⟨i, s⟩ j k := fun j k hk => by
    rw [get_put]
    unfold upd
    by_cases e : j = i
    · rw [if_pos e, if_pos e]
    · rw [if_neg e, if_neg e]; exact h4 j k hk
  cases hl : look l i 0 with
  | none =>
    obtain ⟨e1, e2⟩ := look_none hl
    refine ⟨_, by simp [Instr.mapUpdate, run_underlying undImg, MapKept.run_getObj_map h1, run_chk, run_find h2, hl, Result.andThen, MapKept.run_setObj_map _ h1]; rfl, ?_, turn_set _ _ _⟩
    refine ⟨_, _, putE l i s, by simp [hlt]; exact ⟨rfl, rfl⟩, ?_, nodup_put h3, hval⟩
    rw [e1, Array.toList_push, List.map_append, List.map_append, h2]
    rfl
  | some q =>
    obtain ⟨d, e1, e2, e3, e4⟩ := look_some hl
    rw [Nat.zero_add] at e1
    subst e1
    have hd : q.1 < l.length := (List.getElem?_eq_some_iff.1 e2).1
    have hlen : es.size = l.length := by have := congrArg List.length h2; simpa using this
    have hes : q.1 < es.size := by omega
    have hkey : es[q.1].key = .int .i64 i := by
      have := congrArg (fun x => x[q.1]?) h2
      simp only [List.getElem?_map, e2, Array.getElem?_toList, Array.getElem?_eq_getElem hes, Option.map_some, Option.some.injEq] at this
      exact congrArg Prod.fst this
    have hst : ∀ w, (Instr.keyThatStays (.int .i64 i) (.int .i64 i)).run Try.prog w = .ok (.int .i64 i) w := fun w => by
      simp [Instr.keyThatStays, Instr.sameBits]
    refine ⟨_, by simp [Instr.mapUpdate, run_underlying undImg, MapKept.run_getObj_map h1, run_chk, run_find h2, hl, Result.andThen, MapKept.run_setObj_map _ h1, Array.getElem?_eq_getElem hes, hkey, hst]; rfl, ?_, turn_set _ _ _⟩
    refine ⟨_, _, putE l i s, by simp [hlt]; exact ⟨rfl, rfl⟩, ?_, nodup_put h3, hval⟩
    rw [← e3, Array.toList_modify, List.map_set, ← h2]
    exact map_mod (f := kvE) (g := fun e => { key := Value.int IntKind.i64 i, val := Value.agg (ar 64 s), born := e.born }) (v := kvP (i, s)) (fun _ => rfl) _ _
theorem run_del {ty : TypeId} (h : MapB w r F) (i : Int) : ∃ w', (Builtin.delete_ #[89, 3] ty #[.map (some r), .int .i64 i]).run Try.prog w = .ok (.tuple #[]) w' ∧ MapB w' r (upd F ⟨i, zero⟩) ∧ Turn (fun b => b = r) w w' := by
  have hlt := h.lt
  obtain ⟨es, c, l, h1, h2, h3, h4⟩ := h
  have hval : ∀ j k, k < 64 → getE (delE l i) j k = upd F ⟨i, zero⟩ j k := fun j k hk => by
    rw [get_del i j l h3]
    unfold upd
    by_cases e : j = i
    · rw [if_pos e, if_pos e]
    · rw [if_neg e, if_neg e]; exact h4 j k hk
  cases hl : look l i 0 with
  | none =>
    obtain ⟨e1, e2⟩ := look_none hl
    refine ⟨_, by simp [Builtin.delete_, run_underlying undImg, MapKept.run_getObj_map h1, run_chk, run_find h2, hl, Result.andThen, MapKept.run_setObj_map _ h1]; rfl, ?_, turn_set _ _ _⟩
    exact ⟨_, _, delE l i, by simp [hlt]; exact ⟨rfl, rfl⟩, by rw [e2]; exact h2, nodup_del h3, hval⟩
  | some q =>
    obtain ⟨d, e1, e2, e3, e4⟩ := look_some hl
    rw [Nat.zero_add] at e1
    subst e1
    refine ⟨_, by simp [Builtin.delete_, run_underlying undImg, MapKept.run_getObj_map h1, run_chk, run_find h2, hl, Result.andThen, MapKept.run_setObj_map _ h1]; rfl, ?_, turn_set _ _ _⟩
    refine ⟨_, _, delE l i, by simp [hlt]; exact ⟨rfl, rfl⟩, ?_, nodup_del h3, hval⟩
    rw [← e4, map_era, ← h2, ← map_era]
    congr 1
    rw [Array.toList_eraseIdxIfInBounds]
end
end MbP
end Go.Proofs.Ytablkaofaedpeaa
set_option maxRecDepth 100000
namespace Go.Proofs.Ytablkaofaedpeaa
open Go.ChangeShapes Go.WideShapes Go.ChangeAt Go.RowKit
attribute [local go_sem] Gives
namespace MbO
open MbM MbP
section
variable {ops : Array Oper} {Q : Exit → Act → World → Prop} {a : Act} {w : World} {rest : List Oper} {dst : Option Tmp} {ty t2 : TypeId} {pos : String} {after : Array Edge} {m x y : Operand} {r : Nat} {i : Int} {F : Img} {s f g : Nat → Nat} {n : Nat} {T : TypeId}
theorem wlookM (hm : a.eval m = .map (some r)) (hx : a.eval x = .int .i64 i) (h : MapB w r F) (hk : wpList Try.prog ops Q rest (a.put dst (.agg (ar 64 (F i)))) w) :
    wpList Try.prog ops Q (⟨dst, .lookup 89 m x false, ty, pos, after, none⟩ :: rest) a w := by
  have hr := run_look h i
  refine wpList_plain rfl fun K hK => ?_
  unfold Oper.wp execOp
  simp [hm, hx, hr, Result.andThen]
  exact hK _ _ hk
theorem wputM (hm : a.eval m = .map (some r)) (hx : a.eval x = .int .i64 i) (hy : a.eval y = .agg (ar 64 s)) (h : MapB w r F) (hk : ∀ w', MapB w' r (upd F ⟨i, s⟩) → Turn (fun b => b = r) w w' → wpList Try.prog ops Q rest (a.put dst undef) w') :
    wpList Try.prog ops Q (⟨dst, .mapUpdate 89 m x y, ty, pos, after, none⟩ :: rest) a w := by
  obtain ⟨w', hr, h1, h2⟩ := run_put h i s
  refine wpList_plain rfl fun K hK => ?_
  unfold Oper.wp execOp
  simp [hm, hx, hy, hr, Result.andThen]
  exact hK _ _ (hk w' h1 h2)
theorem wdelM (hm : a.eval m = .map (some r)) (hx : a.eval x = .int .i64 i) (h : MapB w r F) (hk : ∀ w', MapB w' r (upd F ⟨i, zero⟩) → Turn (fun b => b = r) w w' → wpList Try.prog ops Q rest (a.put dst (.tuple #[])) w') :
    wpList Try.prog ops Q (⟨dst, .call { callee := .builtin .delete, args := #[m, x], argTypes := #[89, 3] }, ty, pos, after, none⟩ :: rest) a w := by
  obtain ⟨w', hr, h1, h2⟩ := run_del (ty := ty) h i
  refine wpList_plain rfl fun K hK => ?_
  unfold Oper.wp execOp
  simp only [resolve, invoke, builtin, Sem.run_bind, Sem.run_pure, Result.andThen_ok, List.map_toArray, List.map_cons, List.map_nil, hm, hx, hr]
  exact hK _ _ (hk w' h1 h2)
theorem weqU (b : Bool) (hT : Try.prog.underlying T = some (.array n 5)) (hg : Try.prog.eqGuardType Try.prog.depth T = false) (hx : a.eval x = .agg (ar n f)) (hy : a.eval y = .agg (ar n g)) (hb : eqA n f g = b) (h : wpList Try.prog ops Q rest (a.put dst (.bool b)) w) :
    wpList Try.prog ops Q (⟨dst, .binOp .eql T x y t2, ty, pos, after, none⟩ :: rest) a w := by
  have hr := exec_eqU (r := t2) (dst := dst) (ty := ty) (pos := pos) (after := after) (gd := none) (w := w) hT hg hx hy
  rw [hb] at hr
  refine wpList_plain rfl fun K hK => ?_
  unfold Oper.wp
  simp [hr, Result.andThen]
  exact hK _ _ h
end
theorem uSe : Try.prog.underlying 30 = some (.array 64 5) := Try.underlying30
theorem gSe : Try.prog.eqGuardType Try.prog.depth 30 = false := by kernel_rfl
set_option maxRecDepth 100000 in
theorem put_any (r : Nat) (F : Img) (i : Int) (x : Nat → Nat) (w : World) (h : MapB w r F) :
    Calls Try.prog 54 #[.map (some r), .int .i64 i, .agg (ar 64 x)] w fun e w' => e = .returned (.tuple #[]) ∧ MapB w' r (upd F ⟨i, x⟩) ∧ Turn (fun b => b = r) w w' := by
  have H := hid h
  clear h
  go_enter Try.func54, Try.ntmps54
  go_upto_region 1 with fail
  generalize hw1 : World.alloc w _ = w1
  have b1 := hid (show Blk w1 w.heap.size 30 (ar 64 x) by rw [← hw1]; exact Blk.new _ _ _)
  have BEL := hid (show Below w.heap.size w w1 by rw [← hw1]; exact (Below.refl _ _).alloc (Nat.le_refl _) _)
  have H1 := hid (H.out.below BEL.out)
  clear hw1 H
  by_cases hz : ∀ k, k < 64 → x k = 0
  · have he := hid (show eqA 64 x (fun _ => 0) = true from eqA_yes hz)
    have HZ := hid hz
    clear hz
    go_wp2_with (first | ((with_reducible apply ldA tSe); rfl; exact b1.out) | ((with_reducible apply bldZr (n := 64)); kernel_rfl) | ((with_reducible apply weqU true uSe gSe); rfl; rfl; exact he.out) | ((with_reducible apply wdelM); rfl; rfl; exact H1.out; intro w2 h2 ht2))
    simp only [Act.put]
    refine bodyPost_ret (results_none rfl _ _ _) rfl ?_
    refine ⟨rfl, h2.congr fun j k hk => ?_, (Turn.of_new BEL.out).trans ht2 fun _ e => .inl e⟩
    unfold upd
    split
    · exact (HZ.out k hk).symm
    · rfl
  · have he := hid (show eqA 64 x (fun _ => 0) = false from eqA_no hz)
    clear hz
    go_wp2_with (first | ((with_reducible apply ldA tSe); rfl; exact b1.out) | ((with_reducible apply bldZr (n := 64)); kernel_rfl) | ((with_reducible apply weqU false uSe gSe); rfl; rfl; exact he.out) | ((with_reducible apply wputM); rfl; rfl; rfl; exact H1.out; intro w2 h2 ht2))
    go_end0
    exact ⟨rfl, h2, (Turn.of_new BEL.out).trans ht2 fun _ e => .inl e⟩
theorem run_eqi_map (w : World) (d : Nat) (p : Option Nat) : (Op.equalIn (d + 1) 89 (.map p) (.map none)).run Try.prog w = .ok p.isNone w := by
  cases p <;> simp [Op.equalIn, run_underlying undImg]
theorem run_eq_map (w : World) (p : Option Nat) : (binOp .eql 89 (.map p) (.map none)).run Try.prog w = .ok (.bool p.isNone) w := by
  simp only [binOp]
  simp [show Op.equal 89 (.map p) (.map none) = Op.equalIn (9999 + 1) 89 (.map p) (.map none) from rfl, run_eqi_map w 9999 p]
theorem run_ta_map (w : World) (v : Value) (xT : TypeId) : (Instr.typeAssert (.iface 89 v) xT 89 false).run Try.prog w = .ok v w := by
  simp [Instr.typeAssert, run_underlying undImg, go_sem, Result.andThen]
theorem run_clone {w : World} {r : Nat} {es : Array MapEntry} {clock : Nat} (t : TypeId) (hb : w.heap[r]? = some (.map es clock)) :
    (Extern.MapsClone.clone #[.iface t (.map (some r))]).run Try.prog w = .ok (.iface t (.map (some w.heap.size))) (w.alloc (.map es clock)) := by
  have e : Extern.MapsClone.clone #[.iface t (.map (some r))] = (getObj r >>= fun o => match o with
      | .map entries clock => (newObj (.map entries clock) >>= fun n => pure (.iface t (.map (some n))))
      | _ => stuck "maps.clone: a map expected") := rfl
  rw [e]
  simp [MapKept.run_getObj_map hb, Result.andThen, go_sem]
set_option maxHeartbeats 800000 in
theorem clone_any (r : Nat) (F : Img) (w : World) (h : MapB w r F) :
    Calls Try.prog 51 #[.map (some r)] w fun e w' => e = .returned (.map (some w.heap.size)) ∧ MapB w' w.heap.size F ∧ Below w.heap.size w w' ∧ w'.heap.size = w.heap.size + 1 := by
  obtain ⟨es, clock, hb, htw⟩ := h.twin
  have HT := hid htw
  clear h htw
  have hq := fun w => run_eq_map w (some r)
  go_enter Try.func51, Try.ntmps51
  go_wp2
  rw [run_callFunc_extern Try.func62 (by kernel_rfl) (by kernel_rfl) (by kernel_rfl) (e := Extern.MapsClone.clone) (by kernel_rfl), run_clone 89 hb]
  simp only [Result.andThen]
  rw [Oper.upon_value]
  go_wp2
  rw [run_ta_map]
  simp only [Result.andThen]
  rw [Oper.upon_value]
  go_wp2
  go_ret
  exact ⟨rfl, HT.out _ _ (heap_alloc_new w _), (Below.refl _ _).alloc (Nat.le_refl _) _, by simp⟩
/-- Is it made: of a block with sectors. -/
theorem made_any (g : Nat) (n : Int) (hn : 0 < n) (w : World) (h : w.cell? ⟨g, 0, none⟩ = some (.int .i64 n)) :
    Calls Try.prog 50 #[.pointer (some ⟨g, 0, none⟩)] w fun e w' => e = .returned (.bool true) ∧ w = w' := by
  have t1 : decide ((0 : Int) < n) = true := by simp; omega
  clear hn
  go_enter Try.func50, Try.ntmps50
  go_wp2_with fail
  go_ret
  exact ⟨rfl, rfl⟩
theorem find2_any (g : Nat) (n : Int) (hn : 0 < n) (i : Int) (q : Bool) (hq : decide (0 ≤ i ∧ i < n) = q) (w : World) (h : w.cell? ⟨g, 0, none⟩ = some (.int .i64 n)) :
    Calls Try.prog 57 #[.pointer (some ⟨g, 0, none⟩), .int .i64 i] w fun e w' => e = .returned (.int .i64 (if q then 0 else 2)) ∧ w = w' := by
  by_cases h0 : 0 ≤ i
  · have t1 : decide (i < 0) = false := by simp; omega
    by_cases h1 : i < n
    · have t2 : decide (n ≤ i) = false := by simp; omega
      have t3 : q = true := by rw [← hq]; simp; omega
      subst t3
      clear hq h0 h1
      go_enter Try.func57, Try.ntmps57
      go_wp2_with fail
      refine (made_any g n hn w h).mono ?_
      rintro e w' ⟨rfl, rfl⟩
      go_wp2_with fail
      go_ret
      exact ⟨rfl, rfl⟩
    · have t2 : decide (n ≤ i) = true := by simp; omega
      have t3 : q = false := by rw [← hq]; simp; omega
      subst t3
      clear hq h0 h1
      go_enter Try.func57, Try.ntmps57
      go_wp2_with fail
      refine (made_any g n hn w h).mono ?_
      rintro e w' ⟨rfl, rfl⟩
      go_wp2_with fail
      go_ret
      exact ⟨rfl, rfl⟩
  · have t1 : decide (i < 0) = true := by simp; omega
    have t3 : q = false := by rw [← hq]; simp; omega
    subst t3
    clear hq h0
    go_enter Try.func57, Try.ntmps57
    go_wp2_with fail
    refine (made_any g n hn w h).mono ?_
    rintro e w' ⟨rfl, rfl⟩
    go_wp2_with fail
    go_ret
    exact ⟨rfl, rfl⟩
theorem reach_any (g : Nat) (n : Int) (hn : 0 < n) (i : Int) (q F : Bool) (hq : decide (0 ≤ i ∧ i < n) = q) (w : World) (h : w.cell? ⟨g, 0, none⟩ = some (.int .i64 n)) (h5 : w.cell? ⟨g, 5, none⟩ = some (.bool F)) :
    Calls Try.prog 53 #[.pointer (some ⟨g, 0, none⟩), .int .i64 i] w fun e w' => e = .returned (.int .i64 (if q then (if F then 10 else 0) else 2)) ∧ w = w' := by
  have HQ := hid hq
  clear hq
  go_enter Try.func53, Try.ntmps53
  go_wp2_with fail
  refine (find2_any g n hn i q HQ.out w h).mono ?_
  rintro e w' ⟨rfl, rfl⟩
  cases q with
  | false =>
    go_wp2_with fail
    go_ret
    exact ⟨rfl, rfl⟩
  | true =>
    cases F with
    | false =>
      go_wp2_with fail
      go_ret
      exact ⟨rfl, rfl⟩
    | true =>
      go_wp2_with fail
      go_ret
      exact ⟨rfl, rfl⟩
theorem yes_any (k : Int) (w : World) : Calls Try.prog 56 #[.int .i64 k] w fun e w' => e = .returned (.bool true) ∧ w = w' := by
  go_enter Try.func56, Try.ntmps56
  go_wp2_with fail
  go_ret
  exact ⟨rfl, rfl⟩
/-- The closure of Crash: is the k-th pick there, and not 0. -/
theorem picked_any (h : Nat) (P : Option Addr) (picks : List Nat) (pn pc : Nat) (k : Nat) (w : World) (hb : w.cell? ⟨h, 0, none⟩ = some (.slice P pn pc)) (ha : Arg w P picks pn pc) :
    Calls Try.prog 79 #[.int .i64 k, .pointer (some ⟨h, 0, none⟩)] w fun e w' => e = .returned (.bool (decide (picks.getD k 0 ≠ 0))) ∧ w = w' := by
  have hl := ha.len
  by_cases hk : k < pn
  · obtain ⟨b, o, rfl, hbl, hr⟩ := ha.byt (by omega)
    obtain ⟨x, hx⟩ : ∃ x, x = picks.getD k 0 := ⟨_, rfl⟩
    have q1 : w.cell? ⟨b, o + k, none⟩ = some (.int .u8 (x : Nat)) := by rw [hx]; exact hr k (by omega)
    rw [← hx]
    have t1 : (k : Int) < (pn : Int) := by omega
    clear hx hr ha hl
    by_cases e : x = 0
    · subst e
      go_enter Try.func79, Try.ntmps79
      go_wp2_with fail
      go_ret
      exact ⟨rfl, rfl⟩
    · have tx : ((x : Int) != 0) = true := by simp; omega
      rw [show decide (x ≠ 0) = true by simp [e]]
      go_enter Try.func79, Try.ntmps79
      go_wp2_with fail
      go_ret
      exact ⟨rfl, rfl⟩
  · have t1 : decide ((k : Int) < (pn : Int)) = false := by simp; omega
    have HF := hid (show decide (picks.getD k 0 ≠ 0) = false by rw [List.getD_eq_getElem?_getD, List.getElem?_eq_none (by omega)]; rfl)
    clear ha hl
    go_enter Try.func79, Try.ntmps79
    go_wp2_with fail
    go_ret
    exact ⟨by rw [HF.out]; rfl, rfl⟩
theorem tWr (p : Pt) : RowT 100 (atL p).toArray.size := by
  rw [List.size_toArray, atL_len]
  exact ⟨by kernel_rfl, _, Try.underlying100, rfl⟩
theorem at_one (p : Pt) : (atL p).toArray.all (·.oneCell') = true := by
  rw [Array.all_eq_true_iff_forall_mem]
  intro u hu
  exact atL_ones p u (by simpa using hu)
/-- The closure of Set: was it written there. -/
theorem there_any (h : Nat) (i : Int) (p : Pt) (w : World) (hb : w.cell? ⟨h, 0, none⟩ = some (.int .i64 i)) :
    Calls Try.prog 76 #[.agg (atL p).toArray, .pointer (some ⟨h, 0, none⟩)] w fun e w' => e = .returned (.bool (decide (p.i = i))) ∧ Below w.heap.size w w' := by
  have hl : h < w.heap.size := World.block_lt_of_cell? w ⟨h, 0, none⟩ hb
  have HB := hid hb
  clear hb
  go_enter Try.func76, Try.ntmps76
  go_upto_region 1 with fail
  generalize hw1 : World.alloc w _ = w1
  have b1 := hid (show Blk w1 w.heap.size 100 (atL p).toArray by rw [← hw1]; exact Blk.new _ _ _)
  have BEL := hid (show Below w.heap.size w w1 by rw [← hw1]; exact (Below.refl _ _).alloc (Nat.le_refl _) _)
  have q0 : w1.cell? ⟨h, 0, none⟩ = some (.int .i64 i) := (BEL.out.cell (p := ⟨h, 0, none⟩) hl).trans HB.out
  have q1 : w1.cell? ⟨w.heap.size, 0, none⟩ = some (.int .i64 p.i) := at_i b1.out.whole
  clear hw1 HB b1
  go_wp2_with fail
  go_ret
  exact ⟨rfl, BEL.out⟩
end MbO
end Go.Proofs.Ytablkaofaedpeaa
set_option maxRecDepth 100000
namespace Go.Proofs.Ytablkaofaedpeaa
open Go.ChangeShapes Go.WideShapes Go.ChangeAt Go.RowKit
attribute [local go_sem] Gives
namespace MbP
theorem MapB.obj {w : World} {r : Nat} {F : MbM.Img} (h : MapB w r F) : ∃ es c, w.heap[r]? = some (.map es c) := by
  obtain ⟨es, c, l, h1, _⟩ := h
  exact ⟨es, c, h1⟩
theorem map_ne {w : World} {r b : Nat} {F : MbM.Img} {cs : Array Value} {t : TypeId} {q : Nat × Nat} (h : MapB w r F) (hb : w.heap[b]? = some (.cells cs t q)) : b ≠ r := fun e => by
  obtain ⟨es, c, h1⟩ := h.obj
  rw [← e, hb] at h1
  cases h1
end MbP
namespace MbO
open MbM MbP
theorem eltWr : EltX 100 65 atL where
  pos := by omega
  len := atL_len
  one := atL_ones
  info := elt_info (by kernel_rfl) (by kernel_rfl) (by kernel_rfl)
theorem undWr : Try.prog.underlying 90 = some (.slice 100) := Try.underlying90
/-- Maps as elements. -/
def imE (r : Option Nat) : List Value := [.map r]
theorem eltIm : EltX 89 1 imE where
  pos := by omega
  len _ := rfl
  one x u hu := by
    unfold imE at hu
    rw [List.mem_singleton] at hu
    subst hu; rfl
  info := elt_info (by kernel_rfl) (by kernel_rfl) (by kernel_rfl)
theorem undIm : Try.prog.underlying 91 = some (.slice 89) := Try.underlying91
abbrev OwnL (w : World) (B : Nat) (v : Value) (l : List Pt) : Prop := OwnX 100 65 atL w B v l
abbrev OwnM (w : World) (B : Nat) (v : Value) (l : List (Option Nat)) : Prop := OwnX 89 1 imE w B v l
def mbC7 (n : Int) (rs rd : Nat) (vl vm : Value) (f h : Bool) : Array Value := #[.int .i64 n, .map (some rs), .map (some rd), vl, vm, .bool f, .bool h]
/-- Block g holds a member. -/
structure Mm (w : World) (g rs rd : Nat) (vl vm : Value) (ms : List Nat) (n : Int) (S D : Img) (log : List Pt) (marks : List Img) (f h : Bool) : Prop where
  blk : Blk w g 93 (mbC7 n rs rd vl vm f h)
  pos : 0 < n
  seen : MapB w rs S
  dur : MapB w rd D
  lg : OwnL w 0 vl log
  mr : OwnM w 0 vm (ms.map some)
  len : ms.length = marks.length
  im : ∀ (i m : Nat) (F : Img), ms[i]? = some m → marks[i]? = some F → MapB w m F
  ne : rs ≠ rd
  out : ∀ m, m ∈ ms → m ≠ rs ∧ m ≠ rd
/-- What it turns. -/
def mSet (g rs rd : Nat) (vl vm : Value) (b : Nat) : Prop := b = g ∨ b = rs ∨ b = rd ∨ vl.ownBlock = some b ∨ vm.ownBlock = some b
section
variable {w w' : World} {g rs rd : Nat} {vl vm : Value} {ms : List Nat} {n : Int} {S D : Img} {log : List Pt} {marks : List Img} {f h : Bool} {T : Nat → Prop}
theorem Mm.lt (H : Mm w g rs rd vl vm ms n S D log marks f h) {b : Nat} (hb : mSet g rs rd vl vm b ∨ b ∈ ms) : b < w.heap.size := by
  rcases hb with (rfl | rfl | rfl | e | e) | e
  · exact H.blk.lt
  · exact H.seen.lt
  · exact H.dur.lt
  · exact (H.lg.own b e).2
  · exact (H.mr.own b e).2
  · obtain ⟨i, hi⟩ := List.mem_iff_getElem?.1 e
    have hil : i < marks.length := by rw [← H.len]; exact (List.getElem?_eq_some_iff.1 hi).1
    exact (H.im i b _ hi (List.getElem?_eq_getElem hil)).lt
theorem Mm.turn (H : Mm w g rs rd vl vm ms n S D log marks f h) (ht : Turn T w w') (hT : ∀ b, mSet g rs rd vl vm b ∨ b ∈ ms → ¬ T b) : Mm w' g rs rd vl vm ms n S D log marks f h where
  blk := H.blk.turn ht (hT _ (.inl (.inl rfl)))
  pos := H.pos
  seen := H.seen.turn ht (hT _ (.inl (.inr (.inl rfl))))
  dur := H.dur.turn ht (hT _ (.inl (.inr (.inr (.inl rfl)))))
  lg := H.lg.turn ht fun b e => hT b (.inl (.inr (.inr (.inr (.inl e)))))
  mr := H.mr.turn ht fun b e => hT b (.inl (.inr (.inr (.inr (.inr e)))))
  len := H.len
  im i m F h1 h2 := (H.im i m F h1 h2).turn ht (hT m (.inr (List.mem_of_getElem? h1)))
  ne := H.ne
  out := H.out
theorem Mm.below (H : Mm w g rs rd vl vm ms n S D log marks f h) (hb : Below w.heap.size w w') : Mm w' g rs rd vl vm ms n S D log marks f h :=
  H.turn (Turn.of_below hb) fun b e => by have := H.lt e; omega
theorem Mm.g_rs (H : Mm w g rs rd vl vm ms n S D log marks f h) : g ≠ rs := map_ne H.seen H.blk
theorem Mm.g_rd (H : Mm w g rs rd vl vm ms n S D log marks f h) : g ≠ rd := map_ne H.dur H.blk
theorem Mm.l_rs (H : Mm w g rs rd vl vm ms n S D log marks f h) : vl.ownBlock ≠ some rs := fun e => by obtain ⟨c, hc⟩ := H.lg.obj e; exact map_ne H.seen hc rfl
theorem Mm.l_rd (H : Mm w g rs rd vl vm ms n S D log marks f h) : vl.ownBlock ≠ some rd := fun e => by obtain ⟨c, hc⟩ := H.lg.obj e; exact map_ne H.dur hc rfl
theorem Mm.m_rs (H : Mm w g rs rd vl vm ms n S D log marks f h) : vm.ownBlock ≠ some rs := fun e => by obtain ⟨c, hc⟩ := H.mr.obj e; exact map_ne H.seen hc rfl
theorem Mm.m_rd (H : Mm w g rs rd vl vm ms n S D log marks f h) : vm.ownBlock ≠ some rd := fun e => by obtain ⟨c, hc⟩ := H.mr.obj e; exact map_ne H.dur hc rfl
theorem Mm.l_g (H : Mm w g rs rd vl vm ms n S D log marks f h) : vl.ownBlock ≠ some g := fun e => by
  obtain ⟨c, hc⟩ := H.lg.obj e
  have h2 : w.heap[g]? = some (.cells _ 93 (0, 0)) := H.blk
  rw [hc] at h2
  simp at h2
theorem Mm.m_g (H : Mm w g rs rd vl vm ms n S D log marks f h) : vm.ownBlock ≠ some g := fun e => by
  obtain ⟨c, hc⟩ := H.mr.obj e
  have h2 : w.heap[g]? = some (.cells _ 93 (0, 0)) := H.blk
  rw [hc] at h2
  simp at h2
theorem Mm.l_m (H : Mm w g rs rd vl vm ms n S D log marks f h) {b : Nat} (e : vl.ownBlock = some b) : vm.ownBlock ≠ some b := fun e2 => by
  obtain ⟨c, hc⟩ := H.lg.obj e
  obtain ⟨c2, hc2⟩ := H.mr.obj e2
  rw [hc] at hc2
  simp at hc2
theorem Mm.im_lt (H : Mm w g rs rd vl vm ms n S D log marks f h) {m : Nat} (hm : m ∈ ms) : ∃ F, MapB w m F := by
  obtain ⟨i, hi⟩ := List.mem_iff_getElem?.1 hm
  have hil : i < marks.length := by rw [← H.len]; exact (List.getElem?_eq_some_iff.1 hi).1
  exact ⟨_, H.im i m _ hi (List.getElem?_eq_getElem hil)⟩
theorem Mm.own (H : Mm w g rs rd vl vm ms n S D log marks f h) {b : Nat} (hb : mSet g rs rd vl vm b) : ¬ b ∈ ms := fun hm => by
  obtain ⟨F, hF⟩ := H.im_lt hm
  rcases hb with rfl | rfl | rfl | e | e
  · exact map_ne hF H.blk rfl
  · exact (H.out _ hm).1 rfl
  · exact (H.out _ hm).2 rfl
  · obtain ⟨c, hc⟩ := H.lg.obj e; exact map_ne hF hc rfl
  · obtain ⟨c, hc⟩ := H.mr.obj e; exact map_ne hF hc rfl
/-- Cells of the member's own block alone are turned. -/
theorem Mm.flags (H : Mm w g rs rd vl vm ms n S D log marks f h) (f' h' : Bool) (ht : Turn (fun b => b = g) w w') (hb : Blk w' g 93 (mbC7 n rs rd vl vm f' h')) : Mm w' g rs rd vl vm ms n S D log marks f' h' where
  blk := hb
  pos := H.pos
  seen := H.seen.turn ht fun e => H.g_rs e.symm
  dur := H.dur.turn ht fun e => H.g_rd e.symm
  lg := H.lg.turn ht fun b e e2 => H.l_g (by rw [e, e2])
  mr := H.mr.turn ht fun b e e2 => H.m_g (by rw [e, e2])
  len := H.len
  im i m F h1 h2 := (H.im i m F h1 h2).turn ht fun e => map_ne (H.im i m F h1 h2) H.blk e.symm
  ne := H.ne
  out := H.out
end
def Rep (w : World) (g : Nat) (M I : Nat → Prop) (k : Nat) (st : St) : Prop := ∃ rs rd vl vm ms, Mm w g rs rd vl vm ms st.n (MbM.seen st) st.dur st.log st.marks st.fails st.hurt ∧
  (st.log.length ≤ k ∧ st.marks.length ≤ 64 ∧ st.n ≤ 65536) ∧ M = mSet g rs rd vl vm ∧ I = fun b => b ∈ ms
/-- What a call leaves of a member. -/
theorem Rep.out {w w' : World} {g rs rd : Nat} {vl vm : Value} {ms : List Nat} {rs' rd' : Nat} {vl' vm' : Value} {ms' : List Nat} {k : Nat} {st' : St}
    (H : Mm w' g rs' rd' vl' vm' ms' st'.n (MbM.seen st') st'.dur st'.log st'.marks st'.fails st'.hurt) (hk : st'.log.length ≤ k ∧ st'.marks.length ≤ 64 ∧ st'.n ≤ 65536)
    (hM : ∀ b, mSet g rs' rd' vl' vm' b → mSet g rs rd vl vm b ∨ w.heap.size ≤ b) (hI : ∀ b, b ∈ ms' → b ∈ ms ∨ w.heap.size ≤ b) (ht : Turn (mSet g rs rd vl vm) w w') :
    outP Rep w g (mSet g rs rd vl vm) (fun b => b ∈ ms) k st' w' :=
  ⟨_, _, ⟨rs', rd', vl', vm', ms', H, hk, rfl, rfl⟩, hM, fun b e => .inr (hI b e), ht⟩
theorem Rep.same {w w' : World} {g : Nat} {M I : Nat → Prop} {k : Nat} {st : St} (h : Rep w g M I k st) (hb : Below w.heap.size w w') : outP Rep w g M I k st w' := by
  obtain ⟨rs, rd, vl, vm, ms, H, hk, rfl, rfl⟩ := h
  exact Rep.out (H.below hb) hk (fun b e => .inl e) (fun b e => .inl e) (Turn.of_new hb)
section
variable {ops : Array Oper} {Q : Exit → Act → World → Prop} {a : Act} {w : World} {rest : List Oper} {dst : Option Tmp} {ty : TypeId} {pos : String} {after : Array Edge}
theorem wmkM {T : TypeId} (h : wpList Try.prog ops Q rest (a.put dst (.map (some w.heap.size))) (w.alloc (.map #[] 0))) :
    wpList Try.prog ops Q (⟨dst, .makeMap T none, ty, pos, after, none⟩ :: rest) a w := by
  have hr : (Instr.makeMap T none).run Try.prog w = .ok (.map (some w.heap.size)) (w.alloc (.map #[] 0)) := by
    simp [Instr.makeMap, go_sem, Result.andThen]
  refine wpList_plain rfl fun K hK => ?_
  unfold Oper.wp execOp
  simp only [Option.map_none, Sem.run_bind, hr, Result.andThen_ok, Sem.run_pure]
  exact hK _ _ h
end
theorem built_new (n : Int) (r1 r2 : Nat) : Try.prog.built 93 [(0, .int .i64 n), (1, .map (some r1)), (2, .map (some r2))] = some (mbC7 n r1 r2 (.slice none 0 0) (.slice none 0 0) false false) := by kernel_rfl
section
variable {ops : Array Oper} {Q : Exit → Act → World → Prop} {a : Act} {w : World} {rest : List Oper} {dst : Option Tmp} {ty : TypeId} {pos : String} {after : Array Edge} {x y z : Operand} {n : Int} {r1 r2 : Nat}
theorem bldMb (hx : a.eval x = .int .i64 n) (hy : a.eval y = .map (some r1)) (hz : a.eval z = .map (some r2)) (hk : wpList Try.prog ops Q rest (a.put dst (.agg (mbC7 n r1 r2 (.slice none 0 0) (.slice none 0 0) false false))) w) :
    wpList Try.prog ops Q (⟨dst, .build 93 #[(0, x), (1, y), (2, z)], ty, pos, after, none⟩ :: rest) a w := by
  have hr : (Instr.build 93 #[(0, .int .i64 n), (1, .map (some r1)), (2, .map (some r2))]).run Try.prog w = .ok (.agg (mbC7 n r1 r2 (.slice none 0 0) (.slice none 0 0) false false)) w := run_build w _ _ _ (built_new n r1 r2)
  refine wpList_plain rfl fun K hK => ?_
  unfold Oper.wp execOp
  simp [hx, hy, hz, hr, Result.andThen]
  exact hK _ _ hk
end
theorem new_any (n : Int) (h1 : 1 ≤ n) (h2 : n ≤ 65536) (w : World) : Calls Try.prog 22 #[.int .i64 n] w fun e w' => ∃ g M I, e = .returned (.tuple #[at' g, .int .i64 0]) ∧ Rep w' g M I 0 (made n) ∧ (∀ b, M b ∨ I b → w.heap.size ≤ b) ∧ Below w.heap.size w w' := by
  have t1 : decide (n < 1) = false := by simp; omega
  have t2 : decide ((65536 : Int) < n) = false := by simp; omega
  go_enter Try.func22, Try.ntmps22
  go_wp2_with (first | (with_reducible apply wmkM) | ((with_reducible apply bldMb); rfl; rfl; rfl))
  go_ret2
  refine ⟨w.heap.size + 2, mSet (w.heap.size + 2) w.heap.size (w.heap.size + 1) (.slice none 0 0) (.slice none 0 0), fun b => b ∈ [], by simp [at'], ?_, ?_, ?_⟩
  · refine ⟨w.heap.size, w.heap.size + 1, _, _, [], ?_, ⟨Nat.zero_le _, Nat.zero_le _, h2⟩, rfl, rfl⟩
    have m0 := MapB.new w
    have m1 : MapB ((w.alloc (.map #[] 0)).alloc (.map #[] 0)) (w.heap.size + 1) fun _ => zero := by
      have := MapB.new (w.alloc (.map #[] 0))
      rwa [show (w.alloc (.map #[] 0)).heap.size = w.heap.size + 1 by simp] at this
    have hb : ∀ (w : World) (o : Obj), Below w.heap.size w (w.alloc o) := fun w o => (Below.refl _ _).alloc (Nat.le_refl _) _
    exact ⟨Blk.top rfl (by simp), by show 0 < n; omega, (m0.below (hb _ _)).below (hb _ _), m1.below (hb _ _), OwnX.nil _ _ _ _ _, OwnX.nil _ _ _ _ _, rfl, fun i m F h => by simp at h, by omega, fun m h => by simp at h⟩
  · intro b hb
    rcases hb with (rfl | rfl | rfl | e | e) | e
    · omega
    · omega
    · omega
    · cases e
    · cases e
    · cases e
  · exact (((Below.refl _ _).alloc (Nat.le_refl _) _).alloc (by simp) _).alloc (by simp; omega) _
theorem bad_any (n : Int) (hn : ¬ (1 ≤ n ∧ n ≤ 65536)) (w : World) : Calls Try.prog 22 #[.int .i64 n] w fun e w' => e = .returned (.tuple #[.pointer none, .int .i64 2]) ∧ Below w.heap.size w w' := by
  by_cases h1 : n < 1
  · have t1 : decide (n < 1) = true := by simp; omega
    clear hn
    go_enter Try.func22, Try.ntmps22
    go_wp2_with fail
    go_ret2
    exact ⟨rfl, Below.refl _ _⟩
  · have t1 : decide (n < 1) = false := by simp; omega
    have t2 : decide ((65536 : Int) < n) = true := by simp; omega
    clear hn
    go_enter Try.func22, Try.ntmps22
    go_wp2_with fail
    go_ret2
    exact ⟨rfl, Below.refl _ _⟩
section
variable {w : World} {g rs rd : Nat} {vl vm : Value} {ms : List Nat} {n : Int} {S D : Img} {log : List Pt} {marks : List Img} {f h : Bool}
set_option maxRecDepth 100000 in
theorem read2_any (H : Mm w g rs rd vl vm ms n S D log marks f h) (i : Int) (q : Bool) (hq : decide (0 ≤ i ∧ i < n) = q) :
    Calls Try.prog 29 #[at' g, .int .i64 i] w fun e w' => e = .returned (.tuple #[.agg (ar 64 (if q then (if f then zero else S i) else zero)), .int .i64 (if q then (if f then 10 else 0) else 2)]) ∧ Below w.heap.size w w' := by
  have HH := hid H
  have HQ := hid hq
  unfold at'
  clear H hq
  go_enter Try.func29, Try.ntmps29
  go_upto_region 1 with (with_reducible apply alA tSe)
  generalize hw1 : World.alloc w _ = w1
  have b1 := hid (show Blk w1 w.heap.size 30 (ar 64 fun _ => 0) by rw [← hw1]; exact Blk.new _ _ _)
  have BEL := hid (show Below w.heap.size w w1 by rw [← hw1]; exact (Below.refl _ _).alloc (Nat.le_refl _) _)
  have H1 := hid (HH.out.below BEL.out)
  clear hw1 HH
  have p0 : w1.cell? ⟨g, 0, none⟩ = some (.int .i64 n) := H1.out.blk.cell 0
  have p5 : w1.cell? ⟨g, 5, none⟩ = some (.bool f) := H1.out.blk.cell 5
  have hn := hid H1.out.pos
  go_wp2_with fail
  refine (reach_any g n hn.out i q f HQ.out w1 p0 p5).mono ?_
  rintro e w' ⟨rfl, rfl⟩
  cases q with
  | false =>
    have bz := b1.out.setRow_same (ar 64 fun _ => 0)
    have bb := hid (below_setRow BEL.out (Nat.le_refl w.heap.size) (ar 64 fun _ => 0))
    go_wp2_with (first | ((with_reducible apply bldZr (n := 64)); kernel_rfl) | ((with_reducible apply stA tSe); rfl; rfl; exact b1.out))
    apply retA tSe Try.results29
    · rfl
    · rfl
    · rfl
    · exact bz
    · exact ⟨rfl, bb.out⟩
  | true =>
    cases f with
    | true =>
      have bz := b1.out.setRow_same (ar 64 fun _ => 0)
      have bb := hid (below_setRow BEL.out (Nat.le_refl w.heap.size) (ar 64 fun _ => 0))
      go_wp2_with (first | ((with_reducible apply bldZr (n := 64)); kernel_rfl) | ((with_reducible apply stA tSe); rfl; rfl; exact b1.out))
      apply retA tSe Try.results29
      · rfl
      · rfl
      · rfl
      · exact bz
      · exact ⟨rfl, bb.out⟩
    | false =>
      have p1 : w1.cell? ⟨g, 1, none⟩ = some (.map (some rs)) := H1.out.blk.cell 1
      have bz := b1.out.setRow_same (ar 64 (S i))
      have bb := hid (below_setRow BEL.out (Nat.le_refl w.heap.size) (ar 64 (S i)))
      go_wp2_with (first | ((with_reducible apply wlookM); rfl; rfl; exact H1.out.seen) | ((with_reducible apply stA tSe); rfl; rfl; exact b1.out))
      apply retA tSe Try.results29
      · rfl
      · rfl
      · rfl
      · exact bz
      · exact ⟨rfl, bb.out⟩
set_option maxRecDepth 100000 in
theorem look2_any (H : Mm w g rs rd vl vm ms n S D log marks f h) (i : Int) (q : Bool) (hq : decide (0 ≤ i ∧ i < n) = q) :
    Calls Try.prog 30 #[at' g, .int .i64 i] w fun e w' => e = .returned (.tuple #[.agg (ar 64 (if q then D i else zero)), .int .i64 (if q then 0 else 2)]) ∧ Below w.heap.size w w' := by
  have HH := hid H
  have HQ := hid hq
  unfold at'
  clear H hq
  go_enter Try.func30, Try.ntmps30
  go_upto_region 1 with (with_reducible apply alA tSe)
  generalize hw1 : World.alloc w _ = w1
  have b1 := hid (show Blk w1 w.heap.size 30 (ar 64 fun _ => 0) by rw [← hw1]; exact Blk.new _ _ _)
  have BEL := hid (show Below w.heap.size w w1 by rw [← hw1]; exact (Below.refl _ _).alloc (Nat.le_refl _) _)
  have H1 := hid (HH.out.below BEL.out)
  clear hw1 HH
  have p0 : w1.cell? ⟨g, 0, none⟩ = some (.int .i64 n) := H1.out.blk.cell 0
  have hn := hid H1.out.pos
  go_wp2_with fail
  refine (find2_any g n hn.out i q HQ.out w1 p0).mono ?_
  rintro e w' ⟨rfl, rfl⟩
  cases q with
  | false =>
    have bz := b1.out.setRow_same (ar 64 fun _ => 0)
    have bb := hid (below_setRow BEL.out (Nat.le_refl w.heap.size) (ar 64 fun _ => 0))
    go_wp2_with (first | ((with_reducible apply bldZr (n := 64)); kernel_rfl) | ((with_reducible apply stA tSe); rfl; rfl; exact b1.out))
    apply retA tSe Try.results30
    · rfl
    · rfl
    · rfl
    · exact bz
    · exact ⟨rfl, bb.out⟩
  | true =>
    have p1 : w1.cell? ⟨g, 2, none⟩ = some (.map (some rd)) := H1.out.blk.cell 2
    have bz := b1.out.setRow_same (ar 64 (D i))
    have bb := hid (below_setRow BEL.out (Nat.le_refl w.heap.size) (ar 64 (D i)))
    go_wp2_with (first | ((with_reducible apply wlookM); rfl; rfl; exact H1.out.dur) | ((with_reducible apply stA tSe); rfl; rfl; exact b1.out))
    apply retA tSe Try.results30
    · rfl
    · rfl
    · rfl
    · exact bz
    · exact ⟨rfl, bb.out⟩
theorem touched2_any (H : Mm w g rs rd vl vm ms n S D log marks f h) : Calls Try.prog 31 #[at' g] w fun e w' => e = .returned (.bool h) ∧ w = w' := by
  have p0 : w.cell? ⟨g, 0, none⟩ = some (.int .i64 n) := H.blk.cell 0
  have p6 : w.cell? ⟨g, 6, none⟩ = some (.bool h) := H.blk.cell 6
  have hn := hid H.pos
  unfold at'
  clear H
  go_enter Try.func31, Try.ntmps31
  go_wp2_with fail
  refine (made_any g n hn.out w p0).mono ?_
  rintro e w' ⟨rfl, rfl⟩
  go_wp2_with fail
  go_ret
  exact ⟨rfl, rfl⟩
theorem len2_any (H : Mm w g rs rd vl vm ms n S D log marks f h) : Calls Try.prog 46 #[at' g] w fun e w' => e = .returned (.int .i64 n) ∧ w = w' := by
  have p0 : w.cell? ⟨g, 0, none⟩ = some (.int .i64 n) := H.blk.cell 0
  have hn := hid H.pos
  unfold at'
  clear H
  go_enter Try.func46, Try.ntmps46
  go_wp2_with fail
  refine (made_any g n hn.out w p0).mono ?_
  rintro e w' ⟨rfl, rfl⟩
  go_wp2_with fail
  go_ret
  exact ⟨rfl, rfl⟩
theorem unflushed2_any (H : Mm w g rs rd vl vm ms n S D log marks f h) : Calls Try.prog 33 #[at' g] w fun e w' => e = .returned (.int .i64 (log.length : Nat)) ∧ w = w' := by
  have p0 : w.cell? ⟨g, 0, none⟩ = some (.int .i64 n) := H.blk.cell 0
  obtain ⟨A, c, e, _⟩ := H.lg.sli atL_len
  have p3 : w.cell? ⟨g, 3, none⟩ = some (.slice A log.length c) := by rw [← e]; exact H.blk.cell 3
  have hn := hid H.pos
  unfold at'
  clear H e
  go_enter Try.func33, Try.ntmps33
  go_wp2_with fail
  refine (made_any g n hn.out w p0).mono ?_
  rintro e w' ⟨rfl, rfl⟩
  go_wp2_with fail
  go_ret
  exact ⟨rfl, rfl⟩
theorem fail2_any (H : Mm w g rs rd vl vm ms n S D log marks f h) (q : Bool) : Calls Try.prog 71 #[at' g, .bool q] w fun e w' => e = .returned (.int .i64 0) ∧ Mm w' g rs rd vl vm ms n S D log marks q (h || q) ∧ Turn (fun b => b = g) w w' := by
  have p0 : w.cell? ⟨g, 0, none⟩ = some (.int .i64 n) := H.blk.cell 0
  have HH := hid H
  have hn := hid H.pos
  have fz := H.blk.frozen 5
  have p5 : w.cell? ⟨g, 5, none⟩ = some (.bool f) := H.blk.cell 5
  unfold at'
  clear H
  go_enter Try.func71, Try.ntmps71
  go_wp2_with fail
  refine (made_any g n hn.out w p0).mono ?_
  rintro e w' ⟨rfl, rfl⟩
  go_upto_region 4 with fail
  have b1 : Blk (w.setCell ⟨g, 5, none⟩ (.bool q)) g 93 (mbC7 n rs rd vl vm q h) := HH.out.blk.setCell_same 5 (.bool q)
  have tu := Turn.setCell (S := fun b => b = g) w ⟨g, 5, none⟩ (.bool q) rfl
  have H1 := hid (HH.out.flags q h tu b1)
  have TU := hid tu
  generalize World.setCell w _ _ = w1 at H1 TU ⊢
  have p6 : w1.cell? ⟨g, 6, none⟩ = some (.bool h) := H1.out.blk.cell 6
  have fz := H1.out.blk.frozen 6
  have b2 : Blk (w1.setCell ⟨g, 6, none⟩ (.bool (h || q))) g 93 (mbC7 n rs rd vl vm q (h || q)) := H1.out.blk.setCell_same 6 (.bool (h || q))
  have tu2 := Turn.setCell (S := fun b => b = g) w1 ⟨g, 6, none⟩ (.bool (h || q)) rfl
  have hfin := hid (And.intro (H1.out.flags q (h || q) tu2 b2) (TU.out.trans tu2 fun _ e => .inl e))
  clear HH b1 tu H1 TU b2 tu2
  cases h with
  | false =>
    go_wp2_with fail
    go_ret
    exact ⟨rfl, hfin.out⟩
  | true =>
    go_wp2_with fail
    go_ret
    exact ⟨rfl, hfin.out⟩
end
end MbO
end Go.Proofs.Ytablkaofaedpeaa
set_option maxRecDepth 100000
namespace Go.Proofs.Ytablkaofaedpeaa
open Go.ChangeShapes Go.WideShapes Go.ChangeAt Go.RowKit
attribute [local go_sem] Gives
namespace MbO
open MbM MbP
def keptB (l : List Pt) (q : Nat → Bool) (n : Nat) : List Pt := (List.range n).flatMap fun k => if q k then l[k]?.toList else []
theorem keptB_step (l : List Pt) (q : Nat → Bool) (k : Nat) : keptB l q (k + 1) = keptB l q k ++ (if q k then l[k]?.toList else []) := by
  unfold keptB
  rw [List.range_succ, List.flatMap_append, List.flatMap_singleton]
theorem keptB_yes {l : List Pt} {q : Nat → Bool} {k : Nat} {p : Pt} (hp : l[k]? = some p) (h : q k = true) : keptB l q (k + 1) = keptB l q k ++ [p] := by
  rw [keptB_step, if_pos h, hp]; rfl
theorem keptB_no {l : List Pt} {q : Nat → Bool} {k : Nat} (h : q k = false) : keptB l q (k + 1) = keptB l q k := by
  rw [keptB_step, if_neg (by simp [h]), List.append_nil]
theorem keptB_all (l : List Pt) : ∀ n, n ≤ l.length → keptB l (fun _ => true) n = l.take n
  | 0, _ => by rw [List.take_zero]; rfl
  | n + 1, h => by
    rw [keptB_yes (p := l[n]) (List.getElem?_eq_getElem (by omega)) rfl, keptB_all l n (by omega), List.take_add_one, List.getElem?_eq_getElem (by omega)]; rfl
theorem keptB_picks (l : List Pt) (picks : List Nat) (n : Nat) : keptB l (fun k => decide (picks.getD k 0 ≠ 0)) n = keptN l picks n := by
  unfold keptB keptN
  congr 1
  funext k
  by_cases e : picks.getD k 0 = 0
  · rw [if_neg (by rw [decide_eq_true_eq]; exact fun h => h e), if_pos e]
  · rw [if_pos (by simp only [decide_eq_true_eq]; exact e), if_neg e]
theorem app_out {i : Int} : ∀ {l : List Pt} {d : Img}, (∀ p ∈ l, p.i ≠ i) → app d l i = d i
  | [], d, _ => rfl
  | p :: l, d, h => by
    rw [app_cons, app_out fun q hq => h q (List.mem_cons_of_mem _ hq)]
    unfold upd
    rw [if_neg fun e => h p List.mem_cons_self e.symm]
theorem app_in {i : Int} {x : Nat → Nat} : ∀ {l : List Pt} {d : Img}, (∀ p ∈ l, p.i = i → p.s = x) → (∃ p ∈ l, p.i = i) → app d l i = x
  | [], d, _, ⟨p, hp, _⟩ => by cases hp
  | p :: l, d, h, he => by
    rw [app_cons]
    by_cases e : ∃ q ∈ l, q.i = i
    · exact app_in (fun q hq => h q (List.mem_cons_of_mem _ hq)) e
    · rw [app_out fun q hq hi => e ⟨q, hq, hi⟩]
      obtain ⟨q, hq, hi⟩ := he
      rcases List.mem_cons.1 hq with rfl | hq
      · unfold upd
        rw [if_pos hi.symm]
        exact h q List.mem_cons_self hi
      · exact absurd ⟨q, hq, hi⟩ e
/-- What is seen, once each place of an unflushed write has what is durable there. -/
theorem resee {d : Img} {l k : List Pt} (hk : ∀ p ∈ k, p ∈ l) : app (app d l) (l.map fun p => ⟨p.i, app d k p.i⟩) = app d k := by
  funext i
  by_cases h : ∃ p ∈ l, p.i = i
  · obtain ⟨p, hp, hi⟩ := h
    refine app_in (fun q hq e => ?_) ⟨⟨p.i, app d k p.i⟩, List.mem_map.2 ⟨p, hp, rfl⟩, hi⟩
    obtain ⟨p2, _, rfl⟩ := List.mem_map.1 hq
    show app d k p2.i = app d k i
    rw [show p2.i = i from e]
  · rw [app_out fun q hq e => ?_, app_out fun p hp e => h ⟨p, hp, e⟩, app_out fun p hp e => h ⟨p, hk p hp, e⟩]
    obtain ⟨p2, hp2, rfl⟩ := List.mem_map.1 hq
    exact h ⟨p2, hp2, e⟩
theorem keptB_mem {l : List Pt} {q : Nat → Bool} {n : Nat} : ∀ p ∈ keptB l q n, p ∈ l := fun p h => by
  unfold keptB at h
  obtain ⟨k, _, hk⟩ := List.mem_flatMap.1 h
  split at hk
  · cases e : l[k]? with
    | none => rw [e] at hk; cases hk
    | some x =>
      rw [e] at hk
      simp only [Option.toList_some, List.mem_singleton] at hk
      subst hk
      exact List.mem_of_getElem? e
  · cases hk
section
variable {w w' : World} {g rs rd : Nat} {vl vm : Value} {ms : List Nat} {n : Int} {S D S' D' : Img} {log : List Pt} {marks : List Img} {f h : Bool}
theorem Mm.setD (H : Mm w g rs rd vl vm ms n S D log marks f h) (ht : Turn (fun b => b = rd) w w') (hd : MapB w' rd D') : Mm w' g rs rd vl vm ms n S D' log marks f h where
  blk := H.blk.turn ht H.g_rd
  pos := H.pos
  seen := H.seen.turn ht H.ne
  dur := hd
  lg := H.lg.turn ht fun b e e2 => H.l_rd (by rw [e, e2])
  mr := H.mr.turn ht fun b e e2 => H.m_rd (by rw [e, e2])
  len := H.len
  im i m F h1 h2 := (H.im i m F h1 h2).turn ht fun e => (H.out m (List.mem_of_getElem? h1)).2 e
  ne := H.ne
  out := H.out
theorem Mm.setS (H : Mm w g rs rd vl vm ms n S D log marks f h) (ht : Turn (fun b => b = rs) w w') (hs : MapB w' rs S') : Mm w' g rs rd vl vm ms n S' D log marks f h where
  blk := H.blk.turn ht H.g_rs
  pos := H.pos
  seen := hs
  dur := H.dur.turn ht H.ne.symm
  lg := H.lg.turn ht fun b e e2 => H.l_rs (by rw [e, e2])
  mr := H.mr.turn ht fun b e e2 => H.m_rs (by rw [e, e2])
  len := H.len
  im i m F h1 h2 := (H.im i m F h1 h2).turn ht fun e => (H.out m (List.mem_of_getElem? h1)).1 e
  ne := H.ne
  out := H.out
/-- The unflushed writes let go of. -/
theorem Mm.noLog (H : Mm w g rs rd vl vm ms n S D log marks f h) : Mm (w.setCell ⟨g, 3, none⟩ (.slice none 0 0)) g rs rd (.slice none 0 0) vm ms n S D [] marks f h where
  blk := H.blk.setCell_same 3 _
  pos := H.pos
  seen := H.seen.turn (Turn.setCell (S := fun b => b = g) w ⟨g, 3, none⟩ _ rfl) fun e => H.g_rs e.symm
  dur := H.dur.turn (Turn.setCell (S := fun b => b = g) w ⟨g, 3, none⟩ _ rfl) fun e => H.g_rd e.symm
  lg := OwnX.nil _ _ _ _ _
  mr := H.mr.turn (Turn.setCell (S := fun b => b = g) w ⟨g, 3, none⟩ _ rfl) fun b e e2 => H.m_g (by rw [e, e2])
  len := H.len
  im i m F h1 h2 := (H.im i m F h1 h2).turn (Turn.setCell (S := fun b => b = g) w ⟨g, 3, none⟩ _ rfl) fun e => map_ne (H.im i m F h1 h2) H.blk e.symm
  ne := H.ne
  out := H.out
end
section
variable {ops : Array Oper} {Q : Exit → Act → World → Prop} {a : Act} {w : World} {rest : List Oper} {dst : Option Tmp} {ty T : TypeId} {pos : String} {after : Array Edge} {z : Array Value} {C : World → Prop} {Qk : Act → Prop} {gd : Option (Nat × Bool)} {m x : Operand} {r : Nat} {i : Int} {F : Img}
theorem alZ (hz : ∀ w, (zeroValue T).run Try.prog w = .ok (.agg z) w) (h : wpList Try.prog ops Q rest (a.put dst (.pointer (some ⟨w.heap.size, 0, none⟩))) (w.alloc (.cells z T))) :
    wpList Try.prog ops Q (⟨dst, .alloc T, ty, pos, after, none⟩ :: rest) a w := by
  have hr : (Instr.alloc T true (.tuple #[])).run Try.prog w = .ok (.pointer (some ⟨w.heap.size, 0, none⟩)) (w.alloc (.cells z T)) := by
    simp [Instr.alloc, Sem.run_bind, hz w, newVar, newRow, Value.cells]
  refine wpList_plain rfl fun K hK => ?_
  unfold Oper.wp execOp
  simp only [Sem.run_bind, hr, Result.andThen_ok, Sem.run_pure]
  exact hK _ _ h
theorem klookM (hwt : Region.wanted ⟨dst, .lookup 89 m x false, ty, pos, after, gd⟩ (yielded ops a.tmps) = true) (hm : a.eval m = .map (some r)) (hx : a.eval x = .int .i64 i) (h : ∀ w, C w → MapB w r F)
    (hk : wpK Try.prog ops C Qk rest (a.put dst (.agg (ar 64 (F i))))) : wpK Try.prog ops C Qk (⟨dst, .lookup 89 m x false, ty, pos, after, gd⟩ :: rest) a :=
  wpK_val hwt (fun w hw => gives_value (w' := w) (by simp [execOp, hm, hx, run_look (h w hw) i, Result.andThen]) hw) hk
end
theorem cf_yes (args : Array Value) (w : World) : (callFunc 56 args).run Try.prog w = .ok (.enter 56 args) w := by
  simp [callFunc, Try.func56, Try.f56]
theorem cf_pick (args : Array Value) (w : World) : (callFunc 79 args).run Try.prog w = .ok (.enter 79 args) w := by
  simp [callFunc, Try.func79, Try.f79]
theorem zWr (w : World) : (zeroValue 100).run Try.prog w = .ok (.agg (atL ⟨0, zero⟩).toArray) w := (zero_of_info (P := Try.prog) (t := 100) (v := .agg (atL ⟨0, zero⟩).toArray) (n := 65) (by kernel_rfl)).1 w
theorem atL_size (p q : Pt) : (atL p).toArray.size = (atL q).toArray.size := by rw [List.size_toArray, List.size_toArray, atL_len, atL_len]
section
variable {w : World} {g rs rd : Nat} {vl vm : Value} {ms : List Nat} {n : Int} {S D : Img} {log : List Pt} {marks : List Img} {f h : Bool}
set_option maxHeartbeats 1000000 in
set_option maxRecDepth 100000 in
theorem settle_any (fn : FuncId) (cap : Array Value) (q : Nat → Bool) (hcf : ∀ args w, (callFunc fn args).run Try.prog w = .ok (.enter fn args) w) (H : Mm w g rs rd vl vm ms n S D log marks f h) (hlen : log.length ≤ 1000000)
    (hq : ∀ (k : Nat) w1, k < log.length → Turn (fun b => b = rd) w w1 → Calls Try.prog fn (#[.int .i64 k] ++ cap) w1 fun e w' => e = .returned (.bool (q k)) ∧ w1 = w') :
    Calls Try.prog 55 #[at' g, .func (.func fn) #[] cap] w fun e w' => ∃ E, E = app D (keptB log q log.length) ∧ e = .returned (.tuple #[]) ∧
      Mm w' g rs rd (.slice none 0 0) vm ms n (app S (log.map fun p => ⟨p.i, E p.i⟩)) E [] marks f h ∧ Turn (fun b => b = g ∨ b = rs ∨ b = rd) w w' := by
  obtain ⟨A, c, rfl, _⟩ := H.lg.sli atL_len
  have HH := hid H
  have HQ := hid hq
  have p3 : w.cell? ⟨g, 3, none⟩ = some (.slice A log.length c) := H.blk.cell 3
  unfold at'
  clear H hq
  go_enter Try.func55, Try.ntmps55
  go_wp2_with fail
  go_loopw [13] (fun u wr => ∃ k : Nat, u = .int .i64 k ∧ k ≤ log.length ∧ Hid (Mm wr g rs rd (.slice A log.length c) vm ms n S (app D (keptB log q k)) log marks f h) ∧ Hid (Turn (fun b => b = rd) w wr)) (fun u _ => log.length - (intOf u).toNat)
  case atStart => exact ⟨0, rfl, Nat.zero_le _, hid HH.out, hid (Turn.refl _ _)⟩
  case round =>
    obtain ⟨k, rfl, hk, hM, hT⟩ := hrel
    by_cases hgo : k < log.length
    · have t1 : (k : Int) < (log.length : Int) := by omega
      obtain ⟨p, hp⟩ : ∃ p, log[k]? = some p := ⟨_, List.getElem?_eq_getElem hgo⟩
      obtain ⟨A', c', e', sl⟩ := hM.out.lg.sli atL_len
      cases e'
      obtain ⟨b, o, rfl, _, hbl, hr⟩ := sl.some hp
      have HR := hid hr
      have HP := hid hp
      clear sl hr hp
      go_upto_region 3 with (first
        | ((with_reducible apply ldR (cs := (atL p).toArray) (tWr p)); rfl; exact HR.out)
        | (with_reducible apply alZ zWr)
        | ((with_reducible apply stR (tWr p)); rfl; rfl; exact Blk.new _ _ _; exact atL_size _ _; exact at_one p))
      generalize hw2 : World.setRow _ _ _ = w2
      have b2 := hid (show Blk w2 wr.heap.size 100 (atL p).toArray by rw [← hw2]; exact (Blk.new wr _ _).setRow_same _)
      have h2 := hid (show Below wr.heap.size wr w2 by rw [← hw2]; exact below_setRow ((Below.refl _ _).alloc (Nat.le_refl _) _) (Nat.le_refl _) _)
      have M2 := hid (hM.out.below h2.out)
      have T2 := hid (show Turn (fun b => b = rd) w w2 from hT.out.trans (Turn.of_new (S := fun b => b = rd) h2.out) fun _ e => .inl e)
      clear hw2 hM hT h2 HR
      go_wp2_with fail
      refine (HQ.out k w2 hgo T2.out).mono ?_
      rintro e w3 ⟨rfl, rfl⟩
      obtain ⟨v, hv⟩ : ∃ v, v = q k := ⟨_, rfl⟩
      rw [← hv]
      have HV := hid hv.symm
      clear hv
      cases v with
      | false =>
        have hk1 := hid (show keptB log q (k + 1) = keptB log q k from keptB_no HV.out)
        go_wp2_with fail
        go_roundw
        case rel => exact ⟨k + 1, by go_num, by omega, hid (by rw [hk1.out]; exact M2.out), T2⟩
        case measure => simp [intOf] <;> omega
      | true =>
        have hk1 := hid (show app D (keptB log q (k + 1)) = upd (app D (keptB log q k)) ⟨p.i, p.s⟩ by rw [keptB_yes HP.out HV.out, app_snoc])
        go_upto_region 4 with fail
        refine wp_region_tail (C := fun w' => Below w2.heap.size w2 w') 8 (by kernel_rfl) (by kernel_rfl) (by kernel_rfl) (Below.refl _ _).drew ?_
        apply wpK_val
        · rfl
        · intro w' hw'
          go_simp
          first | exact rfl | exact ⟨rfl, hw'⟩
        simp only [Act.put, List.setIfInBounds_toArray, List.set_cons_succ, List.set_cons_zero]
        apply wpK_val
        · rfl
        · intro w' hw'
          go_simp
          first | exact rfl | exact ⟨rfl, hw'⟩
        simp only [Act.put, List.setIfInBounds_toArray, List.set_cons_succ, List.set_cons_zero]
        apply wpK_val
        · rfl
        · intro w' hw'
          go_simp
          first | exact rfl | exact ⟨rfl, hw'⟩
        simp only [Act.put, List.setIfInBounds_toArray, List.set_cons_succ, List.set_cons_zero]
        apply wpK_val
        · rfl
        · intro w' hw'
          have hcell := (M2.out.below hw').blk.cell 2
          go_simp
          first | exact rfl | exact ⟨rfl, hw'⟩
        simp only [Act.put, List.setIfInBounds_toArray, List.set_cons_succ, List.set_cons_zero]
        apply wpK_val
        · rfl
        · intro w' hw'
          go_simp
          first | exact rfl | exact ⟨rfl, hw'⟩
        simp only [Act.put, List.setIfInBounds_toArray, List.set_cons_succ, List.set_cons_zero]
        apply wpK_val
        · rfl
        · intro w' hw'
          have hcell := at_i ((b2.out.below hw' b2.out.lt).whole)
          go_simp
          first | exact rfl | exact ⟨rfl, hw'⟩
        simp only [Act.put, List.setIfInBounds_toArray, List.set_cons_succ, List.set_cons_zero]
        apply wpK_val
        · rfl
        · intro w' hw'
          go_simp
          first | exact rfl | exact ⟨rfl, hw'⟩
        simp only [Act.put, List.setIfInBounds_toArray, List.set_cons_succ, List.set_cons_zero]
        apply kldA tSe
        · rfl
        · rfl
        · exact fun w' hw' => at_s ((b2.out.below hw' b2.out.lt).whole)
        simp only [Act.put, List.setIfInBounds_toArray, List.set_cons_succ, List.set_cons_zero]
        intro w3 hC3
        have M3 := hid (M2.out.below hC3)
        have T3 := hid (T2.out.trans (Turn.of_new (S := fun b => b = rd) hC3) fun _ e => .inl e)
        clear b2 M2 T2 hC3
        go_wp2_with fail
        refine (put_any rd (app D (keptB log q k)) p.i p.s w3 M3.out.dur).mono ?_
        rintro e w4 ⟨rfl, m4, t4⟩
        have M4 := hid (M3.out.setD t4 m4)
        have T4 := hid (T3.out.trans t4 fun _ e => .inl e)
        clear M3 T3 m4 t4
        go_wp2_with fail
        go_roundw
        case rel => exact ⟨k + 1, by go_num, by omega, hid (by rw [hk1.out]; exact M4.out), T4⟩
        case measure => simp [intOf] <;> omega
    · have hkl : k = log.length := by omega
      subst hkl
      have t1 : ¬ log.length < log.length := by omega
      obtain ⟨E, hE⟩ : ∃ E, E = app D (keptB log q log.length) := ⟨_, rfl⟩
      have HE := hid hE
      rw [← hE] at hM
      have p3 : wr.cell? ⟨g, 3, none⟩ = some (.slice A log.length c) := hM.out.blk.cell 3
      clear HH HQ hgo hk hE
      go_wp2_with fail
      go_loopw [36] (fun u wr => ∃ k : Nat, u = .int .i64 k ∧ k ≤ log.length ∧ Hid (Mm wr g rs rd (.slice A log.length c) vm ms n (app S ((log.take k).map fun p => ⟨p.i, E p.i⟩)) E log marks f h) ∧ Hid (Turn (fun b => b = g ∨ b = rs ∨ b = rd) w wr)) (fun u _ => log.length - (intOf u).toNat)
      case atStart => exact ⟨0, rfl, Nat.zero_le _, hid (by rw [List.take_zero]; exact hM.out), hid (hT.out.mono fun _ e => .inr (.inr e))⟩
      case round =>
        clear hM hT
        obtain ⟨k, rfl, hk, hM, hT⟩ := hrel
        by_cases hgo : k < log.length
        · have t1 : (k : Int) < (log.length : Int) := by omega
          obtain ⟨p, hp⟩ : ∃ p, log[k]? = some p := ⟨_, List.getElem?_eq_getElem hgo⟩
          obtain ⟨A', c', e', sl⟩ := hM.out.lg.sli atL_len
          cases e'
          obtain ⟨b, o, rfl, _, hbl, hr⟩ := sl.some hp
          have HR := hid hr
          have hk1 := hid (show app S ((log.take (k + 1)).map fun p => ⟨p.i, E p.i⟩) = upd (app S ((log.take k).map fun p => ⟨p.i, E p.i⟩)) ⟨p.i, E p.i⟩ by
            rw [List.take_add_one, hp, Option.toList_some, List.map_append, List.map_cons, List.map_nil, app_snoc])
          clear sl hr hp
          go_upto_region 9 with (first
            | ((with_reducible apply ldR (cs := (atL p).toArray) (tWr p)); rfl; exact HR.out)
            | (with_reducible apply alZ zWr)
            | ((with_reducible apply stR (tWr p)); rfl; rfl; exact Blk.new _ _ _; exact atL_size _ _; exact at_one p))
          generalize hw2 : World.setRow _ _ _ = w3
          have b2 := hid (show Blk w3 wr.heap.size 100 (atL p).toArray by rw [← hw2]; exact (Blk.new wr _ _).setRow_same _)
          have h2 := hid (show Below wr.heap.size wr w3 by rw [← hw2]; exact below_setRow ((Below.refl _ _).alloc (Nat.le_refl _) _) (Nat.le_refl _) _)
          have M2 := hid (hM.out.below h2.out)
          have T2 := hid (show Turn (fun b => b = g ∨ b = rs ∨ b = rd) w w3 from hT.out.trans (Turn.of_new (S := fun b => b = g) h2.out) fun _ e => .inl (.inl e))
          clear hw2 hM hT h2 HR
          refine wp_region_tail (C := fun w' => Below w3.heap.size w3 w') 13 (by kernel_rfl) (by kernel_rfl) (by kernel_rfl) (Below.refl _ _).drew ?_
          apply wpK_val
          · rfl
          · intro w' hw'
            go_simp
            first | exact rfl | exact ⟨rfl, hw'⟩
          simp only [Act.put, List.setIfInBounds_toArray, List.set_cons_succ, List.set_cons_zero]
          apply wpK_val
          · rfl
          · intro w' hw'
            go_simp
            first | exact rfl | exact ⟨rfl, hw'⟩
          simp only [Act.put, List.setIfInBounds_toArray, List.set_cons_succ, List.set_cons_zero]
          apply wpK_val
          · rfl
          · intro w' hw'
            go_simp
            first | exact rfl | exact ⟨rfl, hw'⟩
          simp only [Act.put, List.setIfInBounds_toArray, List.set_cons_succ, List.set_cons_zero]
          apply wpK_val
          · rfl
          · intro w' hw'
            have hcell := (M2.out.below hw').blk.cell 1
            go_simp
            first | exact rfl | exact ⟨rfl, hw'⟩
          simp only [Act.put, List.setIfInBounds_toArray, List.set_cons_succ, List.set_cons_zero]
          apply wpK_val
          · rfl
          · intro w' hw'
            go_simp
            first | exact rfl | exact ⟨rfl, hw'⟩
          simp only [Act.put, List.setIfInBounds_toArray, List.set_cons_succ, List.set_cons_zero]
          apply wpK_val
          · rfl
          · intro w' hw'
            have hcell := at_i ((b2.out.below hw' b2.out.lt).whole)
            go_simp
            first | exact rfl | exact ⟨rfl, hw'⟩
          simp only [Act.put, List.setIfInBounds_toArray, List.set_cons_succ, List.set_cons_zero]
          apply wpK_val
          · rfl
          · intro w' hw'
            go_simp
            first | exact rfl | exact ⟨rfl, hw'⟩
          simp only [Act.put, List.setIfInBounds_toArray, List.set_cons_succ, List.set_cons_zero]
          apply wpK_val
          · rfl
          · intro w' hw'
            go_simp
            first | exact rfl | exact ⟨rfl, hw'⟩
          simp only [Act.put, List.setIfInBounds_toArray, List.set_cons_succ, List.set_cons_zero]
          apply wpK_val
          · rfl
          · intro w' hw'
            go_simp
            first | exact rfl | exact ⟨rfl, hw'⟩
          simp only [Act.put, List.setIfInBounds_toArray, List.set_cons_succ, List.set_cons_zero]
          apply wpK_val
          · rfl
          · intro w' hw'
            have hcell := (M2.out.below hw').blk.cell 2
            go_simp
            first | exact rfl | exact ⟨rfl, hw'⟩
          simp only [Act.put, List.setIfInBounds_toArray, List.set_cons_succ, List.set_cons_zero]
          apply wpK_val
          · rfl
          · intro w' hw'
            go_simp
            first | exact rfl | exact ⟨rfl, hw'⟩
          simp only [Act.put, List.setIfInBounds_toArray, List.set_cons_succ, List.set_cons_zero]
          apply wpK_val
          · rfl
          · intro w' hw'
            have hcell := at_i ((b2.out.below hw' b2.out.lt).whole)
            go_simp
            first | exact rfl | exact ⟨rfl, hw'⟩
          simp only [Act.put, List.setIfInBounds_toArray, List.set_cons_succ, List.set_cons_zero]
          apply klookM (r := rd) (i := p.i) (F := E)
          · rfl
          · rfl
          · rfl
          · exact fun w' hw' => (M2.out.below hw').dur
          simp only [Act.put, List.setIfInBounds_toArray, List.set_cons_succ, List.set_cons_zero]
          intro w4 hC4
          have M4 := hid (M2.out.below hC4)
          have T4 := hid (T2.out.trans (Turn.of_new (S := fun b => b = g) hC4) fun _ e => .inl (.inl e))
          clear b2 M2 T2 hC4
          go_wp2_with fail
          refine (put_any rs (app S ((log.take k).map fun p => ⟨p.i, E p.i⟩)) p.i (E p.i) w4 M4.out.seen).mono ?_
          rintro e w5 ⟨rfl, m5, t5⟩
          have M5 := hid (M4.out.setS t5 m5)
          have T5 := hid (T4.out.trans t5 fun _ e => .inl (.inr (.inl e)))
          clear M4 T4 m5 t5
          go_wp2_with fail
          go_roundw
          case rel => exact ⟨k + 1, by go_num, by omega, hid (by rw [hk1.out]; exact M5.out), T5⟩
          case measure => simp [intOf] <;> omega
        · have hkl : k = log.length := by omega
          subst hkl
          have t1 : ¬ log.length < log.length := by omega
          rw [List.take_length] at hM
          have p3 : wr.cell? ⟨g, 3, none⟩ = some (.slice A log.length c) := hM.out.blk.cell 3
          have fz := hM.out.blk.frozen 3
          have hfin := hid (And.intro hM.out.noLog (hT.out.trans (Turn.setCell (S := fun b => b = g) wr ⟨g, 3, none⟩ (.slice none 0 0) rfl) fun _ e => .inl (.inl e)))
          clear hM hT hgo hk
          go_wp2_with fail
          go_end0
          exact ⟨E, HE.out, rfl, hfin.out⟩
/-- What settle leaves, in the words of the document. -/
theorem sem_settle {st : St} {k : List Pt} (hk : ∀ p ∈ k, p ∈ st.log) : app (MbM.seen st) (st.log.map fun p => ⟨p.i, app st.dur k p.i⟩) = app st.dur k := resee hk
set_option maxHeartbeats 400000 in
theorem flush2_any (H : Mm w g rs rd vl vm ms n S D log marks f h) (hlen : log.length ≤ 1000000) :
    Calls Try.prog 28 #[at' g] w fun e w' => (f = true ∧ e = .returned (.int .i64 10) ∧ w = w') ∨ (f = false ∧ ∃ E, E = app D log ∧ e = .returned (.int .i64 0) ∧
      Mm w' g rs rd (.slice none 0 0) vm ms n (app S (log.map fun p => ⟨p.i, E p.i⟩)) E [] marks f h ∧ Turn (fun b => b = g ∨ b = rs ∨ b = rd) w w') := by
  have HH := hid H
  have hn := hid H.pos
  have hq := hid (show decide ((0 : Int) ≤ 0 ∧ 0 < n) = true by simp; exact H.pos)
  have p0 : w.cell? ⟨g, 0, none⟩ = some (.int .i64 n) := H.blk.cell 0
  have p5 : w.cell? ⟨g, 5, none⟩ = some (.bool f) := H.blk.cell 5
  unfold at'
  clear H
  go_enter Try.func28, Try.ntmps28
  go_wp2_with fail
  refine (reach_any g n hn.out 0 true f hq.out w p0 p5).mono ?_
  rintro e w' ⟨rfl, rfl⟩
  cases f with
  | true =>
    go_wp2_with fail
    go_ret
    exact ⟨rfl, rfl⟩
  | false =>
    go_wp2_with fail
    refine (settle_any 56 #[] (fun _ => true) cf_yes HH.out hlen fun k w1 _ _ => yes_any k w1).mono ?_
    rintro e w2 ⟨E, hE, rfl, M2, T2⟩
    have M2 := hid M2
    have T2 := hid T2
    have HE := hid (show E = app D log by rw [hE, keptB_all log _ (Nat.le_refl _), List.take_length])
    clear hE
    have M3 := hid (show Mm w2 g rs rd (.slice none 0 0) vm ms n (app S (log.map fun p => ⟨p.i, app D log p.i⟩)) (app D log) [] marks false h by have := M2.out; rw [HE.out] at this; exact this)
    go_wp2_with fail
    go_ret
    exact ⟨rfl, M3.out, T2.out⟩
set_option maxHeartbeats 400000 in
theorem crash2_any (H : Mm w g rs rd vl vm ms n S D log marks f h) (hlen : log.length ≤ 1000000) (P : Option Addr) (picks : List Nat) (pn pc : Nat) (hp : Arg w P picks pn pc) (hne : ∀ b o, 0 < picks.length → P = some ⟨b, o, none⟩ → b ≠ rd) :
    Calls Try.prog 77 #[at' g, .slice P pn pc] w fun e w' => ∃ E, E = app D (kept log picks) ∧ e = .returned (.int .i64 0) ∧
      Mm w' g rs rd (.slice none 0 0) vm ms n (app S (log.map fun p => ⟨p.i, E p.i⟩)) E [] marks f h ∧ Turn (fun b => b = g ∨ b = rs ∨ b = rd) w w' := by
  have HH := hid H
  have hn := hid H.pos
  have HP := hid hp
  have HN := hid hne
  unfold at'
  clear H hp hne
  go_enter Try.func77, Try.ntmps77
  go_upto_region 1 with fail
  generalize hw1 : World.alloc w _ = w1
  have b1 := hid (show Blk w1 w.heap.size 65 #[.slice P pn pc] by rw [← hw1]; exact Blk.new _ _ _)
  have BEL := hid (show Below w.heap.size w w1 by rw [← hw1]; exact (Below.refl _ _).alloc (Nat.le_refl _) _)
  have H1 := hid (HH.out.below BEL.out)
  have P1 := hid (HP.out.on BEL.out)
  have hgl := HH.out.dur.lt
  clear hw1 HP
  have p0 : w1.cell? ⟨g, 0, none⟩ = some (.int .i64 n) := H1.out.blk.cell 0
  go_wp2_with fail
  refine (made_any g n hn.out w1 p0).mono ?_
  rintro e w' ⟨rfl, rfl⟩
  go_wp2_with fail
  refine (settle_any 79 #[.pointer (some ⟨w.heap.size, 0, none⟩)] (fun k => decide (picks.getD k 0 ≠ 0)) cf_pick H1.out hlen fun k w2 _ ht => picked_any w.heap.size P picks pn pc k w2 ?_ ?_).mono ?_
  · exact (b1.out.turn ht (by omega)).cell 0
  · exact P1.out.turn ht fun b o h1 h2 => HN.out b o h1 h2
  rintro e w2 ⟨E, hE, rfl, M2, T2⟩
  have M2 := hid M2
  have T2 := hid ((Turn.of_new (S := fun b => b = g ∨ b = rs ∨ b = rd) BEL.out).trans T2 fun _ e => .inl e)
  have HE := hid (show E = app D (kept log picks) by rw [hE, keptB_picks]; rfl)
  clear hE
  go_wp2_with fail
  go_ret
  exact ⟨E, HE.out, rfl, M2.out, T2.out⟩
end
end MbO
end Go.Proofs.Ytablkaofaedpeaa
set_option maxRecDepth 100000
namespace Go.Proofs.Ytablkaofaedpeaa
open Go.ChangeShapes Go.WideShapes Go.ChangeAt Go.RowKit
attribute [local go_sem] Gives GivesE
namespace MbO
open MbM MbP
theorem built_wr (i : Int) (x : Nat → Nat) : Try.prog.built 100 [(0, .int .i64 i), (1, .agg (ar 64 x))] = some (atL ⟨i, x⟩).toArray := by
  have h := built_struct (T := 100) (ss := [(0, 1), (1, 64)]) (N := 65) (by kernel_rfl) Try.underlying100 (by kernel_rfl) ⟨rfl, rfl, trivial⟩ rfl [.int .i64 i, .agg (ar 64 x)] (by simp [Value.cells, size_ar])
  simp only [partsAt] at h
  rw [h]
  simp [atL, Value.cells]
section
variable {a : Act} {w : World} {dst : Option Tmp} {ty : TypeId} {pos : String} {after : Array Edge} {o1 o2 : Operand} {i : Int} {x : Nat → Nat}
theorem gE_wr {gd : Option (Nat × Bool)} {R : Value → World → Prop} (h1 : a.eval o1 = .int .i64 i) (h2 : a.eval o2 = .agg (ar 64 x)) (h : R (.agg (atL ⟨i, x⟩).toArray) w) : GivesE Try.prog ⟨dst, .build 100 #[(0, o1), (1, o2)], ty, pos, after, gd⟩ a w R := by
  have hm : (#[(0, o1), (1, o2)] : Array (Nat × Operand)).map (fun (i, x) => (i, a.eval x)) = #[(0, .int .i64 i), (1, .agg (ar 64 x))] := by
    simp only [List.map_toArray, List.map_cons, List.map_nil, h1, h2]
  have hr : (Instr.build 100 #[(0, .int .i64 i), (1, .agg (ar 64 x))]).run Try.prog w = .ok (.agg (atL ⟨i, x⟩).toArray) w := run_build w _ _ _ (built_wr i x)
  unfold GivesE execOp
  simp only [Sem.run_bind, hm, hr, Result.andThen_ok, Sem.run_pure]
  exact h
end
/-- What holds in the midst of Mark. -/
structure MkC (w0 : World) (vm : Value) (l : List (Option Nat)) (S : Img) (d9 d10 d11 : Bool) (v9 v10 v11 : Value) (w' : World) : Prop where
  t : Turn (fun b => vm.ownBlock = some b) w0 w'
  b : d11 = false → Below w0.heap.size w0 w'
  c1 : d11 = true → d10 = true
  c2 : d10 = true → d9 = true
  im : d9 = true → ∃ r, v9 = .map (some r) ∧ MapB w' r S ∧ w0.heap.size ≤ r
  lit : d10 = true → d11 = false → ∃ A c r, v9 = .map (some r) ∧ v10 = .slice A 1 c ∧ Sli 1 imE (fun b => w0.heap.size ≤ b) w' A [some r] 1 c
  own : d11 = true → ∃ r, v9 = .map (some r) ∧ OwnM w' 0 v11 (l ++ [some r]) ∧ ∀ b, v11.ownBlock = some b → vm.ownBlock = some b ∨ w0.heap.size ≤ b
section
variable {w w' : World} {g rs rd : Nat} {vl vl' vm vm' : Value} {ms ms' : List Nat} {n : Int} {S D : Img} {log log' : List Pt} {marks marks' : List Img} {f h : Bool}
/-- The unflushed writes are others. -/
theorem Mm.setL (H : Mm w g rs rd vl vm ms n S D log marks f h) (ht : Turn (fun b => vl.ownBlock = some b) w w') (ho : OwnL w' 0 vl' log') : Mm (w'.setCell ⟨g, 3, none⟩ vl') g rs rd vl' vm ms n S D log' marks f h := by
  have hb : Blk w' g 93 (mbC7 n rs rd vl vm f h) := H.blk.turn ht H.l_g
  have hs : MapB w' rs S := H.seen.turn ht H.l_rs
  have hd : MapB w' rd D := H.dur.turn ht H.l_rd
  have hm : OwnM w' 0 vm (ms.map some) := H.mr.turn ht fun b e e2 => H.l_m e2 e
  have hi : ∀ (i m : Nat) (F : Img), ms[i]? = some m → marks[i]? = some F → MapB w' m F := fun i m F h1 h2 => (H.im i m F h1 h2).turn ht fun e => by
    obtain ⟨c, hc⟩ := H.lg.obj e; exact map_ne (H.im i m F h1 h2) hc rfl
  have tu := Turn.setCell (S := fun b => b = g) w' ⟨g, 3, none⟩ vl' rfl
  exact {
    blk := hb.setCell_same 3 vl'
    pos := H.pos
    seen := hs.turn tu fun e => H.g_rs e.symm
    dur := hd.turn tu fun e => H.g_rd e.symm
    lg := ho.turn tu fun b e e2 => by
      obtain ⟨c, hc⟩ := ho.obj e
      have h2 : w'.heap[g]? = some (.cells _ 93 (0, 0)) := hb
      rw [e2, h2] at hc
      simp at hc
    mr := hm.turn tu fun b e e2 => H.m_g (by rw [e, e2])
    len := H.len
    im := fun i m F h1 h2 => (hi i m F h1 h2).turn tu fun e => map_ne (H.im i m F h1 h2) H.blk e.symm
    ne := H.ne
    out := H.out }
/-- The marks are others. -/
theorem Mm.setM (H : Mm w g rs rd vl vm ms n S D log marks f h) (ht : Turn (fun b => vm.ownBlock = some b) w w') (ho : OwnM w' 0 vm' (ms'.map some)) (hl : ms'.length = marks'.length)
    (him : ∀ (i m : Nat) (F : Img), ms'[i]? = some m → marks'[i]? = some F → MapB w' m F) (hout : ∀ m, m ∈ ms' → m ≠ rs ∧ m ≠ rd) : Mm (w'.setCell ⟨g, 4, none⟩ vm') g rs rd vl vm' ms' n S D log marks' f h := by
  have hb : Blk w' g 93 (mbC7 n rs rd vl vm f h) := H.blk.turn ht H.m_g
  have hs : MapB w' rs S := H.seen.turn ht H.m_rs
  have hd : MapB w' rd D := H.dur.turn ht H.m_rd
  have hl2 : OwnL w' 0 vl log := H.lg.turn ht fun b e e2 => H.l_m e e2
  have tu := Turn.setCell (S := fun b => b = g) w' ⟨g, 4, none⟩ vm' rfl
  exact {
    blk := hb.setCell_same 4 vm'
    pos := H.pos
    seen := hs.turn tu fun e => H.g_rs e.symm
    dur := hd.turn tu fun e => H.g_rd e.symm
    lg := hl2.turn tu fun b e e2 => H.l_g (by rw [e, e2])
    mr := ho.turn tu fun b e e2 => by
      obtain ⟨c, hc⟩ := ho.obj e
      have h2 : w'.heap[g]? = some (.cells _ 93 (0, 0)) := hb
      rw [e2, h2] at hc
      simp at hc
    len := hl
    im := fun i m F h1 h2 => (him i m F h1 h2).turn tu fun e => map_ne (him i m F h1 h2) hb e.symm
    ne := H.ne
    out := hout }
set_option maxHeartbeats 400000 in
theorem write2_bad (H : Mm w g rs rd vl vm ms n S D log marks f h) (i : Int) (q : Bool) (hq : decide (0 ≤ i ∧ i < n) = q) (x : Nat → Nat) (hb : q = false ∨ f = true) :
    Calls Try.prog 27 #[at' g, .int .i64 i, .agg (ar 64 x)] w fun e w' => e = .returned (.int .i64 (if q then (if f then 10 else 0) else 2)) ∧ Below w.heap.size w w' := by
  have HH := hid H
  have HQ := hid hq
  have hn := hid H.pos
  unfold at'
  clear H hq
  go_enter Try.func27, Try.ntmps27
  go_upto_region 1 with fail
  generalize hw1 : World.alloc w _ = w1
  have BEL := hid (show Below w.heap.size w w1 by rw [← hw1]; exact (Below.refl _ _).alloc (Nat.le_refl _) _)
  have H1 := hid (HH.out.below BEL.out)
  clear hw1 HH
  have p0 : w1.cell? ⟨g, 0, none⟩ = some (.int .i64 n) := H1.out.blk.cell 0
  have p5 : w1.cell? ⟨g, 5, none⟩ = some (.bool f) := H1.out.blk.cell 5
  go_wp2_with fail
  refine (reach_any g n hn.out i q f HQ.out w1 p0 p5).mono ?_
  rintro e w' ⟨rfl, rfl⟩
  cases q with
  | false =>
    go_wp2_with fail
    go_ret
    exact ⟨rfl, BEL.out⟩
  | true =>
    obtain rfl : f = true := by rcases hb with e | e; cases e; exact e
    go_wp2_with fail
    go_ret
    exact ⟨rfl, BEL.out⟩
set_option maxHeartbeats 1000000 in
set_option maxRecDepth 100000 in
theorem write2_any (H : Mm w g rs rd vl vm ms n S D log marks false h) (i : Int) (hq : decide (0 ≤ i ∧ i < n) = true) (x : Nat → Nat) (hlen : log.length ≤ 10000) :
    Calls Try.prog 27 #[at' g, .int .i64 i, .agg (ar 64 x)] w fun e w' => e = .returned (.int .i64 0) ∧ ∃ vl', Mm w' g rs rd vl' vm ms n (upd S ⟨i, x⟩) D (log ++ [⟨i, x⟩]) marks false h ∧
      (∀ b, vl'.ownBlock = some b → vl.ownBlock = some b ∨ w.heap.size ≤ b) ∧ Turn (mSet g rs rd vl vm) w w' := by
  obtain ⟨A, c, rfl, _⟩ := H.lg.sli atL_len
  have HH := hid H
  have HQ := hid hq
  have hn := hid H.pos
  unfold at'
  clear H hq
  go_enter Try.func27, Try.ntmps27
  go_upto_region 1 with fail
  generalize hw1 : World.alloc w _ = w1
  have b1 := hid (show Blk w1 w.heap.size 30 (ar 64 x) by rw [← hw1]; exact Blk.new _ _ _)
  have BEL := hid (show Below w.heap.size w w1 by rw [← hw1]; exact (Below.refl _ _).alloc (Nat.le_refl _) _)
  have H1 := hid (HH.out.below BEL.out)
  have hrs := HH.out.seen.lt
  clear hw1 HH
  have p0 : w1.cell? ⟨g, 0, none⟩ = some (.int .i64 n) := H1.out.blk.cell 0
  have p5 : w1.cell? ⟨g, 5, none⟩ = some (.bool false) := H1.out.blk.cell 5
  go_wp2_with fail
  refine (reach_any g n hn.out i true false HQ.out w1 p0 p5).mono ?_
  rintro e w' ⟨rfl, rfl⟩
  go_upto_region 4 with fail
  refine wp_region_tail (C := fun w' => Below w1.heap.size w1 w') 6 (by kernel_rfl) (by kernel_rfl) (by kernel_rfl) (Below.refl _ _).drew ?_
  apply wpK_val
  · rfl
  · intro w' hw'
    go_simp
    first | exact rfl | exact ⟨rfl, hw'⟩
  simp only [Act.put, List.setIfInBounds_toArray, List.set_cons_succ, List.set_cons_zero]
  apply wpK_val
  · rfl
  · intro w' hw'
    go_simp
    first | exact rfl | exact ⟨rfl, hw'⟩
  simp only [Act.put, List.setIfInBounds_toArray, List.set_cons_succ, List.set_cons_zero]
  apply wpK_val
  · rfl
  · intro w' hw'
    go_simp
    first | exact rfl | exact ⟨rfl, hw'⟩
  simp only [Act.put, List.setIfInBounds_toArray, List.set_cons_succ, List.set_cons_zero]
  apply wpK_val
  · rfl
  · intro w' hw'
    have hcell := (H1.out.below hw').blk.cell 1
    go_simp
    first | exact rfl | exact ⟨rfl, hw'⟩
  simp only [Act.put, List.setIfInBounds_toArray, List.set_cons_succ, List.set_cons_zero]
  apply wpK_val
  · rfl
  · intro w' hw'
    go_simp
    first | exact rfl | exact ⟨rfl, hw'⟩
  simp only [Act.put, List.setIfInBounds_toArray, List.set_cons_succ, List.set_cons_zero]
  apply kldA tSe
  · rfl
  · rfl
  · exact fun w' hw' => ((b1.out.below hw' b1.out.lt).head)
  simp only [Act.put, List.setIfInBounds_toArray, List.set_cons_succ, List.set_cons_zero]
  intro w2 hC2
  have H2 := hid (H1.out.below hC2)
  have B2 := hid (BEL.out.trans (hC2.mono BEL.out.size))
  have b2 := hid (b1.out.below hC2 b1.out.lt)
  clear H1 BEL b1 hC2 p0 p5
  go_wp2_with fail
  refine (put_any rs S i x w2 H2.out.seen).mono ?_
  rintro e w3 ⟨rfl, m3, t3⟩
  have H3 := hid (H2.out.setS t3 m3)
  have T3 := hid ((Turn.of_new (S := fun b => b = rs) B2.out).trans t3 fun _ e => .inl e)
  have b3 := hid (b2.out.turn t3 (by omega))
  have HBX := hid (show ¬ (Value.slice A log.length c).ownBlock = some w.heap.size from fun e => by
    obtain ⟨cur, hc⟩ := H3.out.lg.obj e
    have h2 : w3.heap[w.heap.size]? = some (.cells _ 30 (0, 0)) := b3.out
    rw [h2] at hc
    simp at hc)
  clear H2 B2 b2 m3 t3
  go_upto_region 5 with fail
  refine wp_region_c (S := yS [some (.pointer (some ⟨g, 0, none⟩)), some (.pointer (some ⟨g, 0, none⟩)), some (.pointer (some ⟨g, 0, none⟩)), some (.pointer (some ⟨g, 3, none⟩)), some (.slice A log.length c), some (.int .i64 i), some (.agg (ar 64 x)), some (.agg (atL ⟨i, x⟩).toArray), none, none, some (.pointer (some ⟨g, 0, none⟩)), some (.pointer (some ⟨g, 3, none⟩))]
      [(8, kSl 1), (9, kSl (log.length + 1))]) (C := fun d vs w' => ApC 100 65 atL w3 (.slice A log.length c) log (⟨i, x⟩ : Pt) (d 8) (d 9) (vs 8) (vs 9) w') 12 (by kernel_rfl) (by kernel_rfl) (by kernel_rfl) _
    (yS_ok _ fun y hy => by simp only [List.mem_cons, List.not_mem_nil, or_false] at hy; rcases hy with rfl | rfl <;> exact kSl_ok _) ⟨Turn.drew _, fun _ => (Below.refl _ _).drew, (fun e => by cases e), (fun e => by cases e)⟩ fun vs => ?_
  simp only [List.take_succ_cons, List.take_zero, List.drop_succ_cons, List.drop_zero]
  refine ⟨.inl ⟨rfl, fun dd w' hd hnx hw hC => ?_⟩, fun e => ?_⟩
  · go_simp
    first | exact ⟨rfl, hC⟩ | exact hC
  have e' : vs 0 = _ := e
  rw [e']
  clear e e'
  simp only [Act.put, List.setIfInBounds_toArray, List.set_cons_succ, List.set_cons_zero]
  refine ⟨.inl ⟨rfl, fun dd w' hd hnx hw hC => ?_⟩, fun e => ?_⟩
  · go_simp
    first | exact ⟨rfl, hC⟩ | exact hC
  have e' : vs 1 = _ := e
  rw [e']
  clear e e'
  simp only [Act.put, List.setIfInBounds_toArray, List.set_cons_succ, List.set_cons_zero]
  refine ⟨.inl ⟨rfl, fun dd w' hd hnx hw hC => ?_⟩, fun e => ?_⟩
  · go_simp
    first | exact ⟨rfl, hC⟩ | exact hC
  have e' : vs 2 = _ := e
  rw [e']
  clear e e'
  simp only [Act.put, List.setIfInBounds_toArray, List.set_cons_succ, List.set_cons_zero]
  refine ⟨.inl ⟨rfl, fun dd w' hd hnx hw hC => ?_⟩, fun e => ?_⟩
  · go_simp
    first | exact ⟨rfl, hC⟩ | exact hC
  have e' : vs 3 = _ := e
  rw [e']
  clear e e'
  simp only [Act.put, List.setIfInBounds_toArray, List.set_cons_succ, List.set_cons_zero]
  refine ⟨.inl ⟨rfl, fun dd w' hd hnx hw hC => ?_⟩, fun e => ?_⟩
  · have h1 : w'.cell? ⟨g, 3, none⟩ = some (.slice A log.length c) := (H3.out.blk.turn hC.t H3.out.l_g).cell 3
    go_simp
    first | exact ⟨rfl, hC⟩ | exact hC
  have e' : vs 4 = _ := e
  rw [e']
  clear e e'
  simp only [Act.put, List.setIfInBounds_toArray, List.set_cons_succ, List.set_cons_zero]
  refine ⟨.inl ⟨rfl, fun dd w' hd hnx hw hC => ?_⟩, fun e => ?_⟩
  · go_simp
    first | exact ⟨rfl, hC⟩ | exact hC
  have e' : vs 5 = _ := e
  rw [e']
  clear e e'
  simp only [Act.put, List.setIfInBounds_toArray, List.set_cons_succ, List.set_cons_zero]
  refine ⟨.inl ⟨rfl, fun dd w' hd hnx hw hC => ?_⟩, fun e => ?_⟩
  · exact gE_ldA tSe rfl ((b3.out.turn hC.t (HBX.out)).head) ⟨rfl, hC⟩
  have e' : vs 6 = _ := e
  rw [e']
  clear e e'
  simp only [Act.put, List.setIfInBounds_toArray, List.set_cons_succ, List.set_cons_zero]
  refine ⟨.inl ⟨rfl, fun dd w' hd hnx hw hC => ?_⟩, fun e => ?_⟩
  · exact gE_wr rfl rfl ⟨rfl, hC⟩
  have e' : vs 7 = _ := e
  rw [e']
  clear e e'
  simp only [Act.put, List.setIfInBounds_toArray, List.set_cons_succ, List.set_cons_zero]
  refine ⟨.inl ⟨rfl, fun dd w' hd hnx hw hC => ?_⟩, fun e => ?_⟩
  · have h9 : dd 9 = false := hnx 9 (by kernel_rfl)
    have ha := (Below.refl w'.heap.size w').alloc (Nat.le_refl _) (.cells (atL ⟨i, x⟩).toArray 100)
    have hbl := hC.b h9
    exact gE_lit1 (x := (⟨i, x⟩ : Pt)) eltWr undWr (by omega) rfl rfl ⟨⟨_, _, rfl⟩, hC.t.trans (Turn.of_new (S := fun _ => False) ha) (fun _ e => e.elim), (fun _ => hbl.trans (ha.mono hbl.size)), (fun _ _ => ⟨_, _, rfl, sli_lit1 eltWr (⟨i, x⟩ : Pt) w' hbl.size⟩), fun e => by
      have e' : dd 9 = true := e
      rw [h9] at e'; cases e'⟩
  obtain ⟨A8, c8, e'⟩ : ∃ (A : Option Addr) (c : Nat), vs 8 = .slice A 1 c := e
  rw [e']
  have E8 := hid e'
  clear e'
  simp only [Act.put, List.setIfInBounds_toArray, List.set_cons_succ, List.set_cons_zero]
  refine ⟨.inl ⟨rfl, fun dd w' hd hnx hw hC => ?_⟩, fun e => ?_⟩
  · have h8 : dd 8 = true := hw 8 (by kernel_rfl)
    have hbl := hC.b hd
    obtain ⟨A', c', f, sl⟩ := hC.lit h8 hd
    rw [E8.out] at f
    cases f
    refine gE_appW eltWr undWr (B := 0) (v := .slice A log.length c) (l := log) (m := [(⟨i, x⟩ : Pt)]) rfl rfl (H3.out.lg.below hbl (Nat.le_refl _)) sl (by omega) (by omega) (Nat.zero_le _) fun v' w4 o4 g4 wh => ?_
    obtain ⟨A4, c4, rfl, _⟩ := o4.sli atL_len
    refine ⟨⟨A4, c4, by rw [List.length_append]; rfl⟩, ?_⟩
    exact ⟨(Turn.of_new (S := fun b => (Value.slice A log.length c).ownBlock = some b) hbl).trans (Turn.of_grown (S := fun b => (Value.slice A log.length c).ownBlock = some b) g4 fun b e => e) (fun b e => .inl e), (fun e => by cases e), (fun _ e => by cases e), fun _ => ⟨o4, fun b e => by
      have e' : (Value.slice A4 (log ++ [(⟨i, x⟩ : Pt)]).length c4).ownBlock = some b := e
      rcases wh with e2 | e2
      · exact .inl (e2.symm.trans e')
      · rw [e2] at e'; cases e'; exact .inr hbl.size⟩⟩
  obtain ⟨A9, c9, e'⟩ : ∃ (A : Option Addr) (c : Nat), vs 9 = .slice A (log.length + 1) c := e
  rw [e']
  have E9 := hid e'
  clear e'
  simp only [Act.put, List.setIfInBounds_toArray, List.set_cons_succ, List.set_cons_zero]
  refine ⟨.inl ⟨rfl, fun dd w' hd hnx hw hC => ?_⟩, fun e => ?_⟩
  · go_simp
    first | exact ⟨rfl, hC⟩ | exact hC
  have e' : vs 10 = _ := e
  rw [e']
  clear e e'
  simp only [Act.put, List.setIfInBounds_toArray, List.set_cons_succ, List.set_cons_zero]
  refine ⟨.inl ⟨rfl, fun dd w' hd hnx hw hC => ?_⟩, fun e => ?_⟩
  · go_simp
    first | exact ⟨rfl, hC⟩ | exact hC
  have e' : vs 11 = _ := e
  rw [e']
  clear e e'
  simp only [Act.put, List.setIfInBounds_toArray, List.set_cons_succ, List.set_cons_zero]
  intro dd w4 hall hC
  obtain ⟨o4, wh⟩ := hC.own (hall 9 (by omega))
  rw [E9.out] at o4 wh
  have hfin := hid (show Mm (w4.setCell ⟨g, 3, none⟩ (.slice A9 (log.length + 1) c9)) g rs rd (.slice A9 (log.length + 1) c9) vm ms n (upd S ⟨i, x⟩) D (log ++ [⟨i, x⟩]) marks false h from H3.out.setL hC.t o4)
  have hT := hid (show Turn (mSet g rs rd (.slice A log.length c) vm) w (w4.setCell ⟨g, 3, none⟩ (.slice A9 (log.length + 1) c9)) from
    ((T3.out.mono (T := mSet g rs rd (.slice A log.length c) vm) fun b e => .inr (.inl e)).trans hC.t fun b e => .inl (.inr (.inr (.inr (.inl e))))).trans (Turn.setCell (S := fun b => b = g) w4 ⟨g, 3, none⟩ _ rfl) fun b e => .inl (.inl e))
  have hsz := T3.out.size
  have W := hid wh
  have bb := H3.out.blk.turn hC.t H3.out.l_g
  have p3 : w4.cell? ⟨g, 3, none⟩ = some (.slice A log.length c) := bb.cell 3
  have fz := bb.frozen 3
  clear H3 T3 b3 hC o4 wh bb HBX hall E8 E9
  go_wp2_with fail
  go_ret
  exact ⟨rfl, _, hfin.out, fun b e => (W.out b e).imp id fun e => Nat.le_trans hsz e, hT.out⟩
set_option maxHeartbeats 400000 in
theorem mark2_full (H : Mm w g rs rd vl vm ms n S D log marks f h) (hl : marks.length = 64) :
    Calls Try.prog 67 #[at' g] w fun e w' => e = .returned (.tuple #[.int .i64 0, .int .i64 7]) ∧ w = w' := by
  have p0 : w.cell? ⟨g, 0, none⟩ = some (.int .i64 n) := H.blk.cell 0
  obtain ⟨A, c, e, _⟩ := H.mr.sli eltIm.len
  rw [List.length_map, H.len, hl] at e
  have p4 : w.cell? ⟨g, 4, none⟩ = some (.slice A 64 c) := by rw [← e]; exact H.blk.cell 4
  have hn := hid H.pos
  unfold at'
  clear H e
  go_enter Try.func67, Try.ntmps67
  go_wp2_with fail
  refine (made_any g n hn.out w p0).mono ?_
  rintro e w' ⟨rfl, rfl⟩
  go_wp2_with fail
  go_ret2
  exact ⟨rfl, rfl⟩
set_option maxHeartbeats 1000000 in
set_option maxRecDepth 100000 in
theorem mark2_any (H : Mm w g rs rd vl vm ms n S D log marks f h) (hl : marks.length < 64) :
    Calls Try.prog 67 #[at' g] w fun e w' => e = .returned (.tuple #[.int .i64 (marks.length : Nat), .int .i64 0]) ∧ ∃ vm' r, Mm w' g rs rd vl vm' (ms ++ [r]) n S D log (marks ++ [S]) f h ∧
      (∀ b, vm'.ownBlock = some b → vm.ownBlock = some b ∨ w.heap.size ≤ b) ∧ w.heap.size ≤ r ∧ Turn (mSet g rs rd vl vm) w w' := by
  have p0 : w.cell? ⟨g, 0, none⟩ = some (.int .i64 n) := H.blk.cell 0
  obtain ⟨A, c, rfl, _⟩ := H.mr.sli eltIm.len
  have hml : (ms.map some).length = marks.length := by rw [List.length_map, H.len]
  have HML := hid hml
  have p4 : w.cell? ⟨g, 4, none⟩ = some (.slice A marks.length c) := by rw [← hml]; exact H.blk.cell 4
  have hn := hid H.pos
  have HH := hid H
  rw [hml]
  unfold at'
  have t1 : ((marks.length : Int) == 64) = false := by simp; omega
  have t2 : decide ((marks.length : Int) = 64) = false := by simp; omega
  clear H hml
  go_enter Try.func67, Try.ntmps67
  go_wp2_with fail
  refine (made_any g n hn.out w p0).mono ?_
  rintro e w' ⟨rfl, rfl⟩
  go_upto_region 6 with fail
  have HV := hid (show (Value.slice A (ms.map some).length c) = .slice A marks.length c by rw [HML.out])
  refine wp_region_c (S := yS [some (.pointer (some ⟨g, 0, none⟩)), some (.pointer (some ⟨g, 0, none⟩)), some (.pointer (some ⟨g, 0, none⟩)), some (.pointer (some ⟨g, 4, none⟩)), some (.slice A marks.length c), some (.pointer (some ⟨g, 0, none⟩)), some (.pointer (some ⟨g, 0, none⟩)), some (.pointer (some ⟨g, 1, none⟩)), some (.map (some rs)), none, none, none, some (.pointer (some ⟨g, 0, none⟩)), some (.pointer (some ⟨g, 4, none⟩))]
      [(9, kMp), (10, kSl 1), (11, kSl (marks.length + 1))]) (C := fun d vs w' => MkC w (.slice A marks.length c) (ms.map some) S (d 9) (d 10) (d 11) (vs 9) (vs 10) (vs 11) w') 14 (by kernel_rfl) (by kernel_rfl) (by kernel_rfl) _
    (yS_ok _ fun y hy => by simp only [List.mem_cons, List.not_mem_nil, or_false] at hy; rcases hy with rfl | rfl | rfl <;> first | exact kSl_ok _ | exact kMp_ok)
    ⟨Turn.drew _, fun _ => (Below.refl _ _).drew, (fun e => by cases e), (fun e => by cases e), (fun e => by cases e), (fun e => by cases e), (fun e => by cases e)⟩ fun vs => ?_
  simp only [List.take_succ_cons, List.take_zero, List.drop_succ_cons, List.drop_zero]
  have BK := hid (show ∀ w', Turn (fun b => (Value.slice A marks.length c).ownBlock = some b) w w' → Blk w' g 93 (mbC7 n rs rd vl (.slice A marks.length c) f h) from fun w' ht => by
    have := HH.out.blk.turn ht (by rw [← HV.out]; exact HH.out.m_g)
    rw [HV.out] at this
    exact this)
  refine ⟨.inl ⟨rfl, fun dd w' hd hnx hw hC => ?_⟩, fun e => ?_⟩
  · go_simp
    first | exact ⟨rfl, hC⟩ | exact hC
  have e' : vs 0 = _ := e
  rw [e']
  clear e e'
  simp only [Act.put, List.setIfInBounds_toArray, List.set_cons_succ, List.set_cons_zero]
  refine ⟨.inl ⟨rfl, fun dd w' hd hnx hw hC => ?_⟩, fun e => ?_⟩
  · go_simp
    first | exact ⟨rfl, hC⟩ | exact hC
  have e' : vs 1 = _ := e
  rw [e']
  clear e e'
  simp only [Act.put, List.setIfInBounds_toArray, List.set_cons_succ, List.set_cons_zero]
  refine ⟨.inl ⟨rfl, fun dd w' hd hnx hw hC => ?_⟩, fun e => ?_⟩
  · go_simp
    first | exact ⟨rfl, hC⟩ | exact hC
  have e' : vs 2 = _ := e
  rw [e']
  clear e e'
  simp only [Act.put, List.setIfInBounds_toArray, List.set_cons_succ, List.set_cons_zero]
  refine ⟨.inl ⟨rfl, fun dd w' hd hnx hw hC => ?_⟩, fun e => ?_⟩
  · go_simp
    first | exact ⟨rfl, hC⟩ | exact hC
  have e' : vs 3 = _ := e
  rw [e']
  clear e e'
  simp only [Act.put, List.setIfInBounds_toArray, List.set_cons_succ, List.set_cons_zero]
  refine ⟨.inl ⟨rfl, fun dd w' hd hnx hw hC => ?_⟩, fun e => ?_⟩
  · have h1 : w'.cell? ⟨g, 4, none⟩ = some (.slice A marks.length c) := (BK.out _ hC.t).cell 4
    go_simp
    first | exact ⟨rfl, hC⟩ | exact hC
  have e' : vs 4 = _ := e
  rw [e']
  clear e e'
  simp only [Act.put, List.setIfInBounds_toArray, List.set_cons_succ, List.set_cons_zero]
  refine ⟨.inl ⟨rfl, fun dd w' hd hnx hw hC => ?_⟩, fun e => ?_⟩
  · go_simp
    first | exact ⟨rfl, hC⟩ | exact hC
  have e' : vs 5 = _ := e
  rw [e']
  clear e e'
  simp only [Act.put, List.setIfInBounds_toArray, List.set_cons_succ, List.set_cons_zero]
  refine ⟨.inl ⟨rfl, fun dd w' hd hnx hw hC => ?_⟩, fun e => ?_⟩
  · go_simp
    first | exact ⟨rfl, hC⟩ | exact hC
  have e' : vs 6 = _ := e
  rw [e']
  clear e e'
  simp only [Act.put, List.setIfInBounds_toArray, List.set_cons_succ, List.set_cons_zero]
  refine ⟨.inl ⟨rfl, fun dd w' hd hnx hw hC => ?_⟩, fun e => ?_⟩
  · go_simp
    first | exact ⟨rfl, hC⟩ | exact hC
  have e' : vs 7 = _ := e
  rw [e']
  clear e e'
  simp only [Act.put, List.setIfInBounds_toArray, List.set_cons_succ, List.set_cons_zero]
  refine ⟨.inl ⟨rfl, fun dd w' hd hnx hw hC => ?_⟩, fun e => ?_⟩
  · have h1 : w'.cell? ⟨g, 1, none⟩ = some (.map (some rs)) := (BK.out _ hC.t).cell 1
    go_simp
    first | exact ⟨rfl, hC⟩ | exact hC
  have e' : vs 8 = _ := e
  rw [e']
  clear e e'
  simp only [Act.put, List.setIfInBounds_toArray, List.set_cons_succ, List.set_cons_zero]
  refine ⟨.inl ⟨rfl, fun dd w' hd hnx hw hC => ?_⟩, fun e => ?_⟩
  · have h10 : dd 10 = false := by
      cases e : dd 10 with
      | false => rfl
      | true => have := hC.c2 e; rw [hd] at this; cases this
    have h11 : dd 11 = false := by
      cases e : dd 11 with
      | false => rfl
      | true => have := hC.c1 e; rw [h10] at this; cases this
    have hbl := hC.b h11
    go_simp
    refine (clone_any rs S w' (HH.out.seen.below hbl)).mono ?_
    rintro e w4 ⟨rfl, m4, h4, _⟩
    exact ⟨_, rfl, ⟨_, rfl⟩, hC.t.trans (Turn.of_new (S := fun _ => False) h4) (fun _ e => e.elim), (fun _ => hbl.trans (h4.mono hbl.size)), hC.c1, (fun _ => rfl), (fun _ => ⟨_, rfl, m4, hbl.size⟩), (fun e => by
      have e' : dd 10 = true := e
      rw [h10] at e'; cases e'), fun e => by
      have e' : dd 11 = true := e
      rw [h11] at e'; cases e'⟩
  obtain ⟨r9, e'⟩ : ∃ r : Nat, vs 9 = .map (some r) := e
  rw [e']
  have E9 := hid e'
  clear e'
  simp only [Act.put, List.setIfInBounds_toArray, List.set_cons_succ, List.set_cons_zero]
  refine ⟨.inl ⟨rfl, fun dd w' hd hnx hw hC => ?_⟩, fun e => ?_⟩
  · have h9 : dd 9 = true := hw 9 (by kernel_rfl)
    have h11 : dd 11 = false := by
      cases e : dd 11 with
      | false => rfl
      | true => have := hC.c1 e; rw [hd] at this; cases this
    have hbl := hC.b h11
    have ha := (Below.refl w'.heap.size w').alloc (Nat.le_refl _) (.cells (imE (some r9)).toArray 89)
    refine gE_lit1 (x := some r9) (v := .map (some r9)) eltIm undIm (by omega) rfl rfl ⟨⟨_, _, rfl⟩, hC.t.trans (Turn.of_new (S := fun _ => False) ha) (fun _ e => e.elim), (fun _ => hbl.trans (ha.mono hbl.size)), (fun _ => rfl), (fun _ => h9), (fun _ => ?_), (fun _ _ => ⟨_, _, r9, E9.out, rfl, sli_lit1 eltIm (some r9) w' hbl.size⟩), fun e => by
      have e' : dd 11 = true := e
      rw [h11] at e'; cases e'⟩
    obtain ⟨r, e1, e2, e3⟩ := hC.im h9
    exact ⟨r, e1, e2.below ha, e3⟩
  obtain ⟨A10, c10, e'⟩ : ∃ (A : Option Addr) (c : Nat), vs 10 = .slice A 1 c := e
  rw [e']
  have E10 := hid e'
  clear e'
  simp only [Act.put, List.setIfInBounds_toArray, List.set_cons_succ, List.set_cons_zero]
  refine ⟨.inl ⟨rfl, fun dd w' hd hnx hw hC => ?_⟩, fun e => ?_⟩
  · have h10 : dd 10 = true := hw 10 (by kernel_rfl)
    have hbl := hC.b hd
    obtain ⟨A', c', r, e1, f1, sl⟩ := hC.lit h10 hd
    rw [E10.out] at f1
    cases f1
    have hvo : OwnM w' 0 (.slice A marks.length c) (ms.map some) := by rw [← HV.out]; exact HH.out.mr.below hbl (Nat.le_refl _)
    have hlen := HML.out
    refine gE_appW eltIm undIm (B := 0) (v := .slice A marks.length c) (l := ms.map some) (m := [some r]) rfl rfl hvo sl (by omega) (by omega) (Nat.zero_le _) fun v' w4 o4 g4 wh => ?_
    obtain ⟨A4, c4, rfl, _⟩ := o4.sli eltIm.len
    have tg := Turn.of_grown (S := fun b => (Value.slice A marks.length c).ownBlock = some b) g4 fun b e => e
    refine ⟨⟨A4, c4, by rw [List.length_append, hlen]; rfl⟩, (hC.t.trans tg (fun b e => .inl e)), (fun e => by cases e), (fun _ => h10), hC.c2, (fun e => ?_), (fun _ e => by cases e), fun _ => ⟨r, e1, o4, fun b e => ?_⟩⟩
    · obtain ⟨r2, e2, e3, e4⟩ := hC.im e
      refine ⟨r2, e2, e3.turn tg fun x => ?_, e4⟩
      have := (hvo.own _ x).2
      obtain ⟨cur, hc⟩ := hvo.obj x
      exact map_ne e3 hc rfl
    · have e' : (Value.slice A4 (ms.map some ++ [some r]).length c4).ownBlock = some b := e
      rcases wh with e2 | e2
      · exact .inl (e2.symm.trans e')
      · rw [e2] at e'; cases e'; exact .inr hbl.size
  obtain ⟨A11, c11, e'⟩ : ∃ (A : Option Addr) (c : Nat), vs 11 = .slice A (marks.length + 1) c := e
  rw [e']
  have E11 := hid e'
  clear e'
  simp only [Act.put, List.setIfInBounds_toArray, List.set_cons_succ, List.set_cons_zero]
  refine ⟨.inl ⟨rfl, fun dd w' hd hnx hw hC => ?_⟩, fun e => ?_⟩
  · go_simp
    first | exact ⟨rfl, hC⟩ | exact hC
  have e' : vs 12 = _ := e
  rw [e']
  clear e e'
  simp only [Act.put, List.setIfInBounds_toArray, List.set_cons_succ, List.set_cons_zero]
  refine ⟨.inl ⟨rfl, fun dd w' hd hnx hw hC => ?_⟩, fun e => ?_⟩
  · go_simp
    first | exact ⟨rfl, hC⟩ | exact hC
  have e' : vs 13 = _ := e
  rw [e']
  clear e e'
  simp only [Act.put, List.setIfInBounds_toArray, List.set_cons_succ, List.set_cons_zero]
  intro dd w4 hall hC
  obtain ⟨r, e1, o4, wh⟩ := hC.own (hall 11 (by omega))
  obtain ⟨r', e2, m4, hr4⟩ := hC.im (hall 9 (by omega))
  rw [E9.out] at e1 e2
  cases e1
  cases e2
  rw [E11.out] at o4 wh
  have ht' : Turn (fun b => (Value.slice A (ms.map some).length c).ownBlock = some b) w w4 := by rw [HV.out]; exact hC.t
  have hfin := hid (show Mm (w4.setCell ⟨g, 4, none⟩ (.slice A11 (marks.length + 1) c11)) g rs rd vl (.slice A11 (marks.length + 1) c11) (ms ++ [r9]) n S D log (marks ++ [S]) f h from
    HH.out.setM ht' (by rw [List.map_append]; exact o4) (by rw [List.length_append, List.length_append, HH.out.len]; rfl) (fun i m F h1 h2 => by
      by_cases hi : i < ms.length
      · rw [List.getElem?_append_left hi] at h1
        rw [List.getElem?_append_left (by rw [← HH.out.len]; exact hi)] at h2
        exact (HH.out.im i m F h1 h2).turn ht' fun e => by obtain ⟨cur, hc⟩ := HH.out.mr.obj e; exact map_ne (HH.out.im i m F h1 h2) hc rfl
      · have hi2 : i = ms.length := by
          have := (List.getElem?_eq_some_iff.1 h1).1
          rw [List.length_append, List.length_cons, List.length_nil] at this
          omega
        subst hi2
        rw [List.getElem?_append_right (Nat.le_refl _), Nat.sub_self, List.getElem?_cons_zero] at h1
        rw [HH.out.len, List.getElem?_append_right (Nat.le_refl _), Nat.sub_self, List.getElem?_cons_zero] at h2
        cases h1
        cases h2
        exact m4) (fun m hm => by
      rcases List.mem_append.1 hm with hm | hm
      · exact HH.out.out m hm
      · rw [List.mem_singleton] at hm
        subst hm
        have := HH.out.seen.lt
        have := HH.out.dur.lt
        exact ⟨by omega, by omega⟩))
  have hT := hid (show Turn (mSet g rs rd vl (.slice A marks.length c)) w (w4.setCell ⟨g, 4, none⟩ (.slice A11 (marks.length + 1) c11)) from
    (hC.t.mono (T := mSet g rs rd vl (.slice A marks.length c)) fun b e => .inr (.inr (.inr (.inr e)))).trans (Turn.setCell (S := fun b => b = g) w4 ⟨g, 4, none⟩ _ rfl) fun b e => .inl (.inl e))
  have W := hid wh
  have bb := BK.out _ hC.t
  have p4 : w4.cell? ⟨g, 4, none⟩ = some (.slice A marks.length c) := bb.cell 4
  have fz := bb.frozen 4
  clear HH hC o4 wh bb BK hall E9 E10 E11 ht' HV HML m4
  go_wp2_with fail
  go_ret2
  exact ⟨rfl, _, r9, hfin.out, W.out, hr4, hT.out⟩
end
end MbO
end Go.Proofs.Ytablkaofaedpeaa
