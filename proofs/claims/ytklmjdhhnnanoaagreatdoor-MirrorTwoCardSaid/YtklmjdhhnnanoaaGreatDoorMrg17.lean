/-
  What the listed variable gives a walk: the table of the salts.
  What comes in: a digest by value, a text, bytes.
-/
import Derived.Test.YtklmjdhhnnanoaaGreatDoorMrg16
import Derived.Test.YtklmjdhhnnanoaaGreatDoorRows
import Derived.Deep.Slices
import Derived.MakeChecks
import Derived.Lay
import Derived.Lib.LaidTab
import Derived.OpenShut
import Derived.ChangeMaps5
set_option linter.unusedVariables false
set_option linter.unusedSimpArgs false
set_option maxRecDepth 100000
namespace Go.Proofs.YtklmjdhhnnanoaaGreatDoor
open Go.ChangeShapes Go.WideShapes Go.ChangeAt Go.RowKit Go.Deep
theorem salts_named : Tryz.prog.globalNamed "casemate/sha.salts" = some 0 := by kernel_rfl
theorem salts_type : (Tryz.prog.globals[0]?).map (·.type) = some 254 := by kernel_rfl
theorem cells_u32 : Tryz.prog.cellsOf 196 = 1 := by kernel_rfl
theorem cells_wds : Tryz.prog.cellsOf 254 = 64 := by kernel_rfl
def laidL : List (String × DataW Unit) := [
  ("casemate/sha.salts", Rows.laid_casemate_sha_salts)]
theorem laid_plain : (laidL.all fun x => x.2.handleName?.isNone) = true := by kernel_rfl
theorem laid_salts : (Rows.laid_casemate_sha_salts : DataW Unit) = Lib.tabData .u32 (ShaM.salts.map fun n : Nat => (n : Int)) := by rfl
theorem laid_at {P : Program} {w : World} : ∀ {l : List (String × DataW Unit)} {ps : List MemPlace}, DataW.LaidVars P w l ps → ∀ {n : String} {d : DataW Unit}, (n, d) ∈ l →
    ∃ g t cs fuel p, P.globalNamed n = some g ∧ (P.globals[g]?).map (·.type) = some t ∧ w.var? P n = some cs ∧ DataW.trod (fun _ => ()) P w 0 (fun _ => true) false fuel t cs.toList = some (d, p)
  | [], _, _, _, _, hm => nomatch hm
  | _ :: _, _, ⟨g, t, cs, fuel, p, _, a1, a2, a3, a4, tl, _⟩, n, d, hm => by
    cases hm with
    | head => exact ⟨g, t, cs, fuel, p, a1, a2, a3, a4⟩
    | tail _ hm => exact laid_at tl hm
theorem tab_of {W : World} (h : laidMet Tryz.prog laidL W) {name : String} {k : IntKind} {zs : List Int} {g : Nat} {t e : TypeId} {n : Nat}
    (hg : Tryz.prog.globalNamed name = some g) (hty : (Tryz.prog.globals[g]?).map (·.type) = some t) (ht : Tryz.prog.underlying t = some (.array n e)) (he : Tryz.prog.underlying e = some (.int k)) (hce : Tryz.prog.cellsOf e = 1) (hct : Tryz.prog.cellsOf t = n)
    (hm : (name, Lib.tabData k zs) ∈ laidL) : Lib.TabIs Tryz.prog W name k zs ∧ g < W.heap.size := by
  obtain ⟨_, hv, _⟩ := h
  obtain ⟨g', t', cs, fuel, p, hg', ht', hvar, hd⟩ := laid_at hv hm
  obtain rfl := Option.some.inj (hg.symm.trans hg')
  obtain rfl := Option.some.inj (hty.symm.trans ht')
  refine ⟨?_, ?_⟩
  · unfold Lib.TabIs
    rw [hvar, ← Lib.cells_of_tab ht he hce hct hd]
  · unfold World.var? at hvar
    rw [hg] at hvar
    simp only [Option.bind_some] at hvar
    rcases Nat.lt_or_ge g W.heap.size with h1 | h1
    · exact h1
    · rw [Array.getElem?_eq_none (by exact h1)] at hvar
      cases hvar
theorem salts_of_laid {W : World} (h : laidMetH Tryz.prog laidL W) : Salts W := by
  rw [MakeChecks.laidMetH_plain _ _ _ laid_plain] at h
  obtain ⟨h1, h2⟩ := tab_of h salts_named salts_type Tryz.underlying254 Tryz.underlying196 cells_u32 cells_wds (by rw [← laid_salts]; unfold laidL; simp)
  refine ⟨by unfold tabs; omega, fun n hn => ?_, ?_⟩
  · have := h1.cell salts_named n (by rw [List.length_map]; exact hn)
    rw [this, List.getD_eq_getElem?_getD, List.getElem?_map, List.getElem?_eq_getElem (show n < ShaM.salts.length from hn)]
    unfold ShaM.saltAt
    rw [List.getD_eq_getElem?_getD, List.getElem?_eq_getElem (show n < ShaM.salts.length from hn)]
    rfl
  · trivial
theorem laid_met (os : Os) (args : Array Value) : laidMetH Tryz.prog laidL ((World.laidAll Tryz.prog os laidL).forCall (fun _ _ => 0) ⟨#[], args, []⟩).memory := by
  rw [MakeChecks.laidMetH_plain _ _ _ laid_plain]
  exact laidMet_laidAll args (by kernel_rfl) (by kernel_rfl)
end Go.Proofs.YtklmjdhhnnanoaaGreatDoor
set_option maxRecDepth 100000
namespace Go.Proofs.YtklmjdhhnnanoaaGreatDoor
open Go.ChangeShapes Go.WideShapes Go.ChangeAt Go.RowKit Go.Deep
section
variable {H : Type} {enc : TypeId × Value → H} {w : World} {base : Nat} {spare : Nat → Bool} {held : Bool}
end
end Go.Proofs.YtklmjdhhnnanoaaGreatDoor
