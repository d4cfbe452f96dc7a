/-
  What the listed variable gives a walk: the table of the salts.
  Trees: claims (leaf, its tag, a proof, a top) as they come in; TreeChecks over TreeC and TreeD.
  Slices of structs of k cells that come in.
  A list of elements that came in, as Sli.
  Trees: settings (a height, tags) and acts as they come in.
  What comes in: a digest by value, a text, bytes.
-/
import Derived.Test.YtdmnhpgafbcehaaDoorMrg11
import Derived.Test.YtdmnhpgafbcehaaDoorRows
import Derived.Deep.Slices
import Derived.MakeChecks
import Derived.Lay
import Derived.Lib.LaidTab
import Derived.Deep.Strs
import Derived.OpenShut
import Derived.ChangeMaps5
set_option linter.unusedVariables false
set_option linter.unusedSimpArgs false
set_option maxRecDepth 100000
namespace Go.Proofs.YtdmnhpgafbcehaaDoor
open Go.ChangeShapes Go.WideShapes Go.ChangeAt Go.RowKit Go.Deep
theorem salts_named : Tryd.prog.globalNamed "casemate/sha.salts" = some 0 := by kernel_rfl
theorem salts_type : (Tryd.prog.globals[0]?).map (·.type) = some 142 := by kernel_rfl
theorem cells_u32 : Tryd.prog.cellsOf 103 = 1 := by kernel_rfl
theorem cells_wds : Tryd.prog.cellsOf 142 = 64 := by kernel_rfl
def laidL : List (String × DataW Unit) := [
  ("casemate/sha.salts", Rows.laid_casemate_sha_salts)]
theorem laid_plain : (laidL.all fun x => x.2.handleName?.isNone) = true := by kernel_rfl
theorem laid_salts : (Rows.laid_casemate_sha_salts : DataW Unit) = Lib.tabData .u32 (ShaM.salts.map fun n : Nat => (n : Int)) := by rfl
/-- Wherever a variable stands on the list: what is told of it. -/
theorem laid_at {P : Program} {w : World} : ∀ {l : List (String × DataW Unit)} {ps : List MemPlace}, DataW.LaidVars P w l ps → ∀ {n : String} {d : DataW Unit}, (n, d) ∈ l →
    ∃ g t cs fuel p, P.globalNamed n = some g ∧ (P.globals[g]?).map (·.type) = some t ∧ w.var? P n = some cs ∧ DataW.trod (fun _ => ()) P w 0 (fun _ => true) false fuel t cs.toList = some (d, p)
  | [], _, _, _, _, hm => nomatch hm
  | _ :: _, _, ⟨g, t, cs, fuel, p, _, a1, a2, a3, a4, tl, _⟩, n, d, hm => by
    cases hm with
    | head => exact ⟨g, t, cs, fuel, p, a1, a2, a3, a4⟩
    | tail _ hm => exact laid_at tl hm
/-- One table out of the list: its cells. -/
theorem tab_of {W : World} (h : laidMet Tryd.prog laidL W) {name : String} {k : IntKind} {zs : List Int} {g : Nat} {t e : TypeId} {n : Nat}
    (hg : Tryd.prog.globalNamed name = some g) (hty : (Tryd.prog.globals[g]?).map (·.type) = some t) (ht : Tryd.prog.underlying t = some (.array n e)) (he : Tryd.prog.underlying e = some (.int k)) (hce : Tryd.prog.cellsOf e = 1) (hct : Tryd.prog.cellsOf t = n)
    (hm : (name, Lib.tabData k zs) ∈ laidL) : Lib.TabIs Tryd.prog W name k zs ∧ g < W.heap.size := by
  obtain ⟨_, hv, _⟩ := h
  obtain ⟨g', t', cs, fuel, p, hg', ht', hvar, hd⟩ := laid_at hv hm
  obtain rfl := Option.some.inj (hg.symm.trans hg')
  obtain rfl := Option.some.inj (hty.symm.trans ht')
  refine ⟨?_, ?_⟩
  · unfold Lib.TabIs
    rw [hvar, ← Lib.cells_of_tab ht he hce hct hd]
  · unfold World.var? at hvar
    rw [hg] at hvar
    simp only [Option.bind_some] at hvar
    rcases Nat.lt_or_ge g W.heap.size with h1 | h1
    · exact h1
    · rw [Array.getElem?_eq_none (by exact h1)] at hvar
      cases hvar
theorem salts_of_laid {W : World} (h : laidMetH Tryd.prog laidL W) : Salts W := by
  rw [MakeChecks.laidMetH_plain _ _ _ laid_plain] at h
  obtain ⟨h1, h2⟩ := tab_of h salts_named salts_type Tryd.underlying142 Tryd.underlying103 cells_u32 cells_wds (by rw [← laid_salts]; unfold laidL; simp)
  refine ⟨by unfold tabs; omega, fun n hn => ?_, ?_⟩
  · have := h1.cell salts_named n (by rw [List.length_map]; exact hn)
    rw [this, List.getD_eq_getElem?_getD, List.getElem?_map, List.getElem?_eq_getElem (show n < ShaM.salts.length from hn)]
    unfold ShaM.saltAt
    rw [List.getD_eq_getElem?_getD, List.getElem?_eq_getElem (show n < ShaM.salts.length from hn)]
    rfl
  · trivial
theorem laid_met (os : Os) (args : Array Value) : laidMetH Tryd.prog laidL ((World.laidAll Tryd.prog os laidL).forCall (fun _ _ => 0) ⟨#[], args, []⟩).memory := by
  rw [MakeChecks.laidMetH_plain _ _ _ laid_plain]
  exact laidMet_laidAll args (by kernel_rfl) (by kernel_rfl)
end Go.Proofs.YtdmnhpgafbcehaaDoor
set_option maxRecDepth 100000
namespace Go.Proofs.YtdmnhpgafbcehaaDoor
open Go.ChangeShapes Go.WideShapes Go.ChangeAt Go.RowKit Go.Deep
attribute [local go_sem] Gives GivesE
namespace TrM
open TgP RwP
/-- A claim in memory: 66 cells. -/
def cmF (leaf : Int) (f : Nat → Nat) (v : Value) (top : Nat → Nat) (j : Nat) : Value :=
  if j = 0 then .int .i64 leaf else if j < 33 then .int .u8 (f (j - 1) : Nat) else if j = 33 then v else .int .u8 (top (j - 34) : Nat)
def cm (leaf : Int) (f : Nat → Nat) (v : Value) (top : Nat → Nat) : Array Value := row 66 (cmF leaf f v top)
section
variable {w : World} {g : Nat} {leaf : Int} {f top : Nat → Nat} {v : Value} {t : TypeId}
end
section
variable {H : Type} {enc : TypeId × Value → H} {w : World} {base : Nat} {spare : Nat → Bool} {held : Bool}
end
end TrM
end Go.Proofs.YtdmnhpgafbcehaaDoor
set_option maxRecDepth 100000
namespace Go.Proofs.YtdmnhpgafbcehaaDoor
open Go.ChangeShapes Go.WideShapes Go.ChangeAt Go.RowKit Go.Deep
/-- A slice of structs of k cells, in one row below block B. -/
def Elems (k : Nat) (w : World) (B : Nat) (A : Option Addr) (xs : List (List Value)) : Prop :=
  0 < xs.length → ∃ b o, A = some ⟨b, o, none⟩ ∧ b < B ∧ ∀ (i : Nat) (cs : List Value), xs[i]? = some cs → ∀ (j : Nat) (v : Value), cs[j]? = some v → w.cell? ⟨b, o + i * k + j, none⟩ = some v
theorem Elems.below {k B B' : Nat} {w w' : World} {A : Option Addr} {xs : List (List Value)} (h : Elems k w B A xs) (hb : Below B' w w') (hB : B ≤ B') : Elems k w' B A xs := fun hn => by
  obtain ⟨b, o, rfl, hl, hr⟩ := h hn
  exact ⟨b, o, rfl, hl, fun i cs hi j v hj => (hb.cell (p := ⟨b, o + i * k + j, none⟩) (by show b < B'; omega)).trans (hr i cs hi j v hj)⟩
section
variable {H : Type} {enc : TypeId × Value → H} {w : World} {base : Nat} {spare : Nat → Bool} {held : Bool}
end
end Go.Proofs.YtdmnhpgafbcehaaDoor
set_option maxRecDepth 100000
namespace Go.Proofs.YtdmnhpgafbcehaaDoor
open Go.ChangeShapes Go.WideShapes Go.ChangeAt Go.RowKit Go.Deep
namespace StM
section
variable {w : World}
end
end StM
end Go.Proofs.YtdmnhpgafbcehaaDoor
set_option maxRecDepth 100000
namespace Go.Proofs.YtdmnhpgafbcehaaDoor
open Go.ChangeShapes Go.WideShapes Go.ChangeAt Go.RowKit Go.Deep
namespace TrM
open TgP RwP
/-- An act: what, the leaf, its tag. -/
structure Ac where
  d : Int
  c : Int
  s : Nat → Nat
def acL (y : Ac) : List Value := .int .i64 y.d :: .int .i64 y.c :: (ar 32 y.s).toList
section
variable {H : Type} {enc : TypeId × Value → H} {w : World} {base : Nat} {spare : Nat → Bool} {held : Bool}
/-- A height and tags. -/
abbrev stV (h : Int) (A : Option Addr) (n cap : Nat) : Value := .agg #[.int .i64 h, .slice A n cap]
end
end TrM
end Go.Proofs.YtdmnhpgafbcehaaDoor
set_option maxRecDepth 100000
namespace Go.Proofs.YtdmnhpgafbcehaaDoor
open Go.ChangeShapes Go.WideShapes Go.ChangeAt Go.RowKit Go.Deep
section
variable {H : Type} {enc : TypeId × Value → H} {w : World} {base : Nat} {spare : Nat → Bool} {held : Bool}
end
end Go.Proofs.YtdmnhpgafbcehaaDoor
