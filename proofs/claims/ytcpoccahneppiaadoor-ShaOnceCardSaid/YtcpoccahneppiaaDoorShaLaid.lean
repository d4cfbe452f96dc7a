/-
  What the listed variable gives a walk: the table of the salts.
-/
import Derived.Test.YtcpoccahneppiaaDoorRows
import Derived.Test.YtcpoccahneppiaaDoorShaPass
import Derived.Deep.Slices
import Derived.MakeChecks
import Derived.Lay
namespace Go.Proofs.YtcpoccahneppiaaDoor
open Go.ChangeShapes Go.WideShapes Go.ChangeAt Go.RowKit Go.Deep
theorem salts_named : Tryd.prog.globalNamed "casemate/sha.salts" = some 0 := by kernel_rfl
theorem salts_type : (Tryd.prog.globals[0]?).map (·.type) = some 76 := by kernel_rfl
theorem cells_u32 : Tryd.prog.cellsOf 25 = 1 := by kernel_rfl
theorem cells_wds : Tryd.prog.cellsOf 76 = 64 := by kernel_rfl
def laidL : List (String × DataW Unit) := [("casemate/sha.salts", Rows.laid_casemate_sha_salts)]
theorem laid_plain : (laidL.all fun x => x.2.handleName?.isNone) = true := by kernel_rfl
def litsD : List (DataW Unit) := List.map (fun n : Nat => DataW.lit (.int .u32 (n : Int))) ShaM.salts
theorem laid_lits : (Rows.laid_casemate_sha_salts : DataW Unit) = .agg litsD := by rfl
theorem salts_of_laid {W : World} (h : laidMetH Tryd.prog laidL W) : Salts W := by
  rw [MakeChecks.laidMetH_plain _ _ _ laid_plain] at h
  obtain ⟨ps, ⟨g, t, cs, fuel, p, q, hg, ht, hvar, hd, _, _⟩, _⟩ := h
  obtain rfl := Option.some.inj (salts_named.symm.trans hg)
  obtain rfl := Option.some.inj (salts_type.symm.trans ht)
  obtain ⟨xs, m, _, hxe, hlen, hxl, hx⟩ := DataW.trod_array Tryd.underlying76 hd
  have hag := (Prod.mk.inj hxe).1
  rw [laid_lits] at hag
  injection hag with hls
  rw [cells_wds] at hlen
  have hcell : ∀ n, n < 64 → W.cell? ⟨0, n, none⟩ = some (.int .u32 (ShaM.saltAt n : Nat)) := fun n hn => by
    have h1 := hx n hn
    rw [cells_u32, Nat.mul_one, List.getElem?_eq_getElem (by omega)] at h1
    obtain ⟨v, e1, e2, wf⟩ := DataW.trod_int Tryd.underlying25 h1
    have h2 : ((cs.toList.drop n).take 1)[0]? = some (.int .u32 v) := by rw [e1]; rfl
    rw [List.getElem?_take_of_lt (by omega), List.getElem?_drop, Array.getElem?_toList] at h2
    have h3 : litsD[n]? = some (.lit (.int .u32 v)) := by
      rw [hls, List.getElem?_map, List.getElem?_eq_getElem (show n < xs.length by omega), e2]; rfl
    have h4 : litsD[n]? = some (.lit (.int .u32 (ShaM.saltAt n : Nat))) := by
      unfold litsD ShaM.saltAt
      have hl : n < ShaM.salts.length := hn
      rw [List.getElem?_map, List.getD_eq_getElem?_getD, List.getElem?_eq_getElem hl]; rfl
    rw [h4] at h3
    simp only [Option.some.injEq, DataW.lit.injEq, Lit.int.injEq, true_and] at h3
    rw [World.var?_cell salts_named hvar n, h3]
    exact h2
  refine ⟨?_, hcell⟩
  have h0 := hcell 0 (by omega)
  rcases Nat.lt_or_ge 0 W.heap.size with h | h
  · exact h
  · unfold World.cell? at h0
    rw [Array.getElem?_eq_none (by exact h)] at h0
    cases h0
theorem laid_met (os : Os) (args : Array Value) : laidMetH Tryd.prog laidL ((World.laidAll Tryd.prog os laidL).forCall (fun _ _ => 0) ⟨#[], args, []⟩).memory := by
  rw [MakeChecks.laidMetH_plain _ _ _ laid_plain]
  exact laidMet_laidAll args (by kernel_rfl) (by kernel_rfl)
end Go.Proofs.YtcpoccahneppiaaDoor
