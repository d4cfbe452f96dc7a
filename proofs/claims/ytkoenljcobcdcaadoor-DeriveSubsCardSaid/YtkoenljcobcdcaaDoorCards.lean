/-
  DERIVED. GIVEN WITH THE SEED: THE CARDS: each row of YtkoenljcobcdcaaDoorRows.lean that lists a variable, with what it lists TIED to the program's text (the seventh form; the later family's looks); each row that meets fmt, with fmt's text TOLD by the authors' own Lean function (tested against real Go, not proved from fmt's source: count such statements apart). THE CARD IS WHAT COUNTS. Prove the row's statement (the work); the ties are given (YtkoenljcobcdcaaDoorTie.lean); close each card by the builder's one call (the guide's Derived/Test/ToyasCard.lean, 'card_holds'). Laid BY PROGRAM, IN A SANDBOX (cutbox-door.mjs). By AI agents, Wed Nov 11 2026. No macro, syntax, notation, axiom, sorry.
-/
import Derived.Test.YtkoenljcobcdcaaDoorRows
import GoSem.ClaimSeven
namespace Go.Proofs.YtkoenljcobcdcaaDoor
namespace Rows

/-- THE TIED CARD OF 'casematelaw09.DeriveSubs'. -/
def deriveSubsCard : Claim7 := { stood := { row := deriveSubsRow, standIns := [], harness := (true, "f097439397bce1891fac3cba6e78416d8af45cbe887dfe5f7a780bd6fb989250"), looks := false }, kinds := [], alts := [], laidByText := true, laidKinds := [.data], laidTests := true, laidLooks := .later }
def DeriveSubsCardSaid : Prop := Claim7.holds Tryd.pinned (.plain (OpenSpec.ofChange deriveSubsSpec)) deriveSubsCard

/-- THE TIED CARD OF 'casematelaw09.DeriveSets'. -/
def deriveSetsCard : Claim7 := { stood := { row := deriveSetsRow, standIns := [], harness := (true, "f097439397bce1891fac3cba6e78416d8af45cbe887dfe5f7a780bd6fb989250"), looks := false }, kinds := [], alts := [], laidByText := true, laidKinds := [.data], laidTests := true, laidLooks := .later }
def DeriveSetsCardSaid : Prop := Claim7.holds Tryd.pinned (.plain (OpenSpec.ofChange deriveSetsSpec)) deriveSetsCard

/-- THE TIED CARD OF 'casematelaw09.DeriveKnown'. -/
def deriveKnownCard : Claim7 := { stood := { row := deriveKnownRow, standIns := [], harness := (true, "f097439397bce1891fac3cba6e78416d8af45cbe887dfe5f7a780bd6fb989250"), looks := false }, kinds := [], alts := [], laidByText := true, laidKinds := [.data], laidTests := true, laidLooks := .later }
def DeriveKnownCardSaid : Prop := Claim7.holds Tryd.pinned (.plain (OpenSpec.ofChange deriveKnownSpec)) deriveKnownCard

/-- THE TIED CARD OF 'casematelaw09.DeriveRows'. -/
def deriveRowsCard : Claim7 := { stood := { row := deriveRowsRow, standIns := [], harness := (true, "f097439397bce1891fac3cba6e78416d8af45cbe887dfe5f7a780bd6fb989250"), looks := false }, kinds := [], alts := [], laidByText := true, laidKinds := [.data], laidTests := true, laidLooks := .later }
def DeriveRowsCardSaid : Prop := Claim7.holds Tryd.pinned (.plain (OpenSpec.ofChange deriveRowsSpec)) deriveRowsCard

/-- THE SECOND FORM's CARD OF 'casematelaw09.DeriveSubs'. -/
def deriveSubsUptoCard : Claim7 := { stood := { row := deriveSubsUptoRow, standIns := [], harness := (true, "f097439397bce1891fac3cba6e78416d8af45cbe887dfe5f7a780bd6fb989250"), looks := false }, kinds := [], alts := [], laidByText := true, laidKinds := [.data], laidTests := true, laidLooks := .later }
def DeriveSubsUptoCardSaid : Prop := Claim7.holds Tryd.pinned (.plain (OpenSpec.upto deriveSubsSpec)) deriveSubsUptoCard

/-- THE SECOND FORM's CARD OF 'casematelaw09.DeriveSets'. -/
def deriveSetsUptoCard : Claim7 := { stood := { row := deriveSetsUptoRow, standIns := [], harness := (true, "f097439397bce1891fac3cba6e78416d8af45cbe887dfe5f7a780bd6fb989250"), looks := false }, kinds := [], alts := [], laidByText := true, laidKinds := [.data], laidTests := true, laidLooks := .later }
def DeriveSetsUptoCardSaid : Prop := Claim7.holds Tryd.pinned (.plain (OpenSpec.upto deriveSetsSpec)) deriveSetsUptoCard

/-- THE SECOND FORM's CARD OF 'casematelaw09.DeriveKnown'. -/
def deriveKnownUptoCard : Claim7 := { stood := { row := deriveKnownUptoRow, standIns := [], harness := (true, "f097439397bce1891fac3cba6e78416d8af45cbe887dfe5f7a780bd6fb989250"), looks := false }, kinds := [], alts := [], laidByText := true, laidKinds := [.data], laidTests := true, laidLooks := .later }
def DeriveKnownUptoCardSaid : Prop := Claim7.holds Tryd.pinned (.plain (OpenSpec.upto deriveKnownSpec)) deriveKnownUptoCard

/-- THE SECOND FORM's CARD OF 'casematelaw09.DeriveRows'. -/
def deriveRowsUptoCard : Claim7 := { stood := { row := deriveRowsUptoRow, standIns := [], harness := (true, "f097439397bce1891fac3cba6e78416d8af45cbe887dfe5f7a780bd6fb989250"), looks := false }, kinds := [], alts := [], laidByText := true, laidKinds := [.data], laidTests := true, laidLooks := .later }
def DeriveRowsUptoCardSaid : Prop := Claim7.holds Tryd.pinned (.plain (OpenSpec.upto deriveRowsSpec)) deriveRowsUptoCard
end Rows
end Go.Proofs.YtkoenljcobcdcaaDoor
