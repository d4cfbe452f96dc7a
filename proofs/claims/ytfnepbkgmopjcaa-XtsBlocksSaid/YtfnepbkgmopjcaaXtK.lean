/-
  What comes in: two keys and a number.
-/
import Derived.Test.YtfnepbkgmopjcaaXtV
import Derived.Test.YtfnepbkgmopjcaaAesCl
import Derived.Deep.Strs
namespace Go.Proofs.Ytfnepbkgmopjcaa
open Go.ChangeShapes Go.WideShapes Go.ChangeAt Go.RowKit Go.Deep
open AesM (Bt Q16)
open AesP (tBk tKey uKey cells_key cells_bk)
namespace XtP
def ksC (k t : Nat → Nat) (n : Nat) (j : Nat) : Value := if j < 32 then .int .u8 (k j : Nat) else if j < 64 then .int .u8 (t (j - 32) : Nat) else .int .u64 n
/-- Two keys and a number. -/
def ksV (k t : Nat → Nat) (n : Nat) : Array Value := row 65 (ksC k t n)
theorem cells_keys : Try.prog.cellsOf 26 = 65 := by kernel_rfl
theorem cells_n64 : Try.prog.cellsOf 24 = 1 := by kernel_rfl
theorem cells_sec : Try.prog.cellsOf 28 = 64 := by kernel_rfl
theorem n64_wf {a : Int} (h : (Lit.int .u64 a).wf = true) : ∃ n : Nat, a = n ∧ n < 18446744073709551616 := by
  simp [Lit.wf, IntKind.min, IntKind.max, IntKind.bits, IntKind.signed] at h
  exact ⟨a.toNat, by omega, by omega⟩
section
variable {H : Type} {enc : TypeId × Value → H} {w : World} {base : Nat} {spare : Nat → Bool} {held : Bool}
theorem list_at {l : List Value} {o m : Nat} {f : Nat → Nat} (h : (l.drop o).take m = (ar m f).toList) {j : Nat} (hj : j < m) : l[o + j]? = some (.int .u8 (f j : Nat)) := by
  have h1 : ((l.drop o).take m)[j]? = some (.int .u8 (f j : Nat)) := by rw [h, Array.getElem?_toList, get_ar hj]
  rwa [List.getElem?_take_of_lt hj, List.getElem?_drop] at h1
set_option maxRecDepth 100000 in
theorem open_keys {r : Reach} {b0 : Nat} {v : Value} {d : DataW H} {p : List MemPlace} (hv : Value.okWide Try.prog w r b0 26 v) (h : DataW.Trod enc Try.prog w base spare held 26 v d p) :
    ∃ (k t : Nat → Nat) (n : Nat), Bt k ∧ Bt t ∧ n < 18446744073709551616 ∧ v = .agg (ksV k t n) := by
  obtain ⟨cs, rfl, hsz⟩ := okWide_struct Try.underlying26 hv
  rw [cells_keys] at hsz
  obtain ⟨fuel, hf⟩ := h
  obtain ⟨y0, y1, y2, m, _, _, h0, h1, h2⟩ := trod_struct3 Try.underlying26 hf
  rw [cells_key] at h0 h1
  rw [cells_n64] at h2
  obtain ⟨k, hk, e0⟩ := trod_ar uKey cells_key h0
  obtain ⟨t, ht, e1⟩ := trod_ar uKey cells_key h1
  obtain ⟨b, e2, _, w1⟩ := DataW.trod_int Try.underlying24 h2
  obtain ⟨n, rfl, hn⟩ := n64_wf w1
  have e0' : (cs.toList.drop 0).take 32 = (ar 32 k).toList := e0
  have e1' : (cs.toList.drop 32).take 32 = (ar 32 t).toList := e1
  have e2' : (cs.toList.drop 64).take 1 = [.int .u64 (n : Nat)] := e2
  refine ⟨k, t, n, hk, ht, hn, ?_⟩
  have e : cs = ksV k t n := by
    apply Array.ext_getElem?
    intro j
    rw [ksV, get_row]
    by_cases hj : j < 65
    · rw [if_pos hj, ← Array.getElem?_toList]
      unfold ksC
      by_cases a : j < 32
      · rw [if_pos a]
        have := list_at e0' a
        rwa [Nat.zero_add] at this
      · rw [if_neg a]
        by_cases b : j < 64
        · rw [if_pos b]
          have := list_at e1' (show j - 32 < 32 by omega)
          rwa [show 32 + (j - 32) = j by omega] at this
        · rw [if_neg b]
          obtain rfl : j = 64 := by omega
          have h3 : ((cs.toList.drop 64).take 1)[0]? = some (.int .u64 (n : Nat)) := by rw [e2']; rfl
          rwa [List.getElem?_take_of_lt (by omega), List.getElem?_drop] at h3
    · rw [if_neg hj, Array.getElem?_eq_none (by omega)]
  rw [e]
end
section
variable {w : World} {g n : Nat} {k t : Nat → Nat} {ty : TypeId}
theorem keys_data (h : Blk w g ty (ksV k t n)) : w.rangeAt g 0 (ar 32 k).toList := fun j v hv => by
  obtain ⟨hj, rfl⟩ := ar_list_get hv
  rw [h.cell, ksV, get_row_lt (by omega), Nat.zero_add]
  unfold ksC
  rw [if_pos hj]
theorem keys_tweak (h : Blk w g ty (ksV k t n)) : w.rangeAt g 32 (ar 32 t).toList := fun j v hv => by
  obtain ⟨hj, rfl⟩ := ar_list_get hv
  rw [h.cell, ksV, get_row_lt (by omega)]
  unfold ksC
  rw [if_neg (by omega), if_pos (by omega), show 32 + j - 32 = j by omega]
theorem keys_num (h : Blk w g ty (ksV k t n)) : w.cell? ⟨g, 64, none⟩ = some (.int .u64 n) := by
  rw [h.cell, ksV, get_row_lt (by omega)]; rfl
end
end XtP
end Go.Proofs.Ytfnepbkgmopjcaa
