/-
  What comes in: a block's place and its bytes.
-/
import Derived.Test.YtfnepbkgmopjcaaXtK
namespace Go.Proofs.Ytfnepbkgmopjcaa
open Go.ChangeShapes Go.WideShapes Go.ChangeAt Go.RowKit Go.Deep
open AesM (Bt Q16)
open AesP (tBk tKey uKey cells_key cells_bk)
namespace XtP
def bkC (a : Nat) (f : Nat → Nat) (j : Nat) : Value := if j = 0 then .int .u8 a else .int .u8 (f (j - 1) : Nat)
/-- A place and 16 bytes. -/
def bkV (a : Nat) (f : Nat → Nat) : Array Value := row 17 (bkC a f)
theorem cells_block : Try.prog.cellsOf 40 = 17 := by kernel_rfl
section
variable {H : Type} {enc : TypeId × Value → H} {w : World} {base : Nat} {spare : Nat → Bool} {held : Bool}
set_option maxRecDepth 100000 in
theorem open_block {r : Reach} {b0 : Nat} {v : Value} {d : DataW H} {p : List MemPlace} (hv : Value.okWide Try.prog w r b0 40 v) (h : DataW.Trod enc Try.prog w base spare held 40 v d p) :
    ∃ (a : Nat) (f : Nat → Nat), a < 256 ∧ Bt f ∧ v = .agg (bkV a f) := by
  obtain ⟨cs, rfl, hsz⟩ := okWide_struct Try.underlying40 hv
  rw [cells_block] at hsz
  obtain ⟨fuel, hf⟩ := h
  obtain ⟨y0, y1, m, _, _, h0, h1⟩ := trod_struct2 Try.underlying40 hf
  rw [cells_u8] at h0
  rw [cells_bk] at h1
  obtain ⟨b, e0, _, w1⟩ := DataW.trod_int Try.underlying5 h0
  obtain ⟨a, rfl, ha⟩ := u8_wf w1
  obtain ⟨f, hf2, e1⟩ := trod_ar uBk cells_bk h1
  have e0' : (cs.toList.drop 0).take 1 = [.int .u8 (a : Nat)] := e0
  have e1' : (cs.toList.drop 1).take 16 = (ar 16 f).toList := e1
  refine ⟨a, f, ha, hf2, ?_⟩
  have e : cs = bkV a f := by
    apply Array.ext_getElem?
    intro j
    rw [bkV, get_row]
    by_cases hj : j < 17
    · rw [if_pos hj, ← Array.getElem?_toList]
      unfold bkC
      by_cases c : j = 0
      · rw [if_pos c]
        subst c
        have h3 : ((cs.toList.drop 0).take 1)[0]? = some (.int .u8 (a : Nat)) := by rw [e0']; rfl
        rwa [List.getElem?_take_of_lt (by omega), List.getElem?_drop] at h3
      · rw [if_neg c]
        have := list_at e1' (show j - 1 < 16 by omega)
        rwa [show 1 + (j - 1) = j by omega] at this
    · rw [if_neg hj, Array.getElem?_eq_none (by omega)]
  rw [e]
end
section
variable {w : World} {g a : Nat} {f : Nat → Nat} {ty : TypeId}
theorem block_at (h : Blk w g ty (bkV a f)) : w.cell? ⟨g, 0, none⟩ = some (.int .u8 a) := by
  rw [h.cell, bkV, get_row_lt (by omega)]; rfl
theorem block_bytes (h : Blk w g ty (bkV a f)) : w.rangeAt g 1 (ar 16 f).toList := fun j v hv => by
  obtain ⟨hj, rfl⟩ := ar_list_get hv
  rw [h.cell, bkV, get_row_lt (by omega)]
  unfold bkC
  rw [if_neg (by omega), show 1 + j - 1 = j by omega]
end
end XtP
end Go.Proofs.Ytfnepbkgmopjcaa
