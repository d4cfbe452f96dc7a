/-
  DERIVED. GIVEN WITH THE SEED: THE CARDS: each row of YtfgmgfniolmpkaaDoorRows.lean that lists a variable, with what it lists TIED to the program's text (the seventh form; the later family's looks); each row that meets fmt, with fmt's text TOLD by the authors' own Lean function (tested against real Go, not proved from fmt's source: count such statements apart). THE CARD IS WHAT COUNTS. Prove the row's statement (the work); the ties are given (YtfgmgfniolmpkaaDoorTie.lean); close each card by the builder's one call (the guide's Derived/Test/ToyasCard.lean, 'card_holds'). Laid BY PROGRAM, IN A SANDBOX (cutbox-door.mjs). By AI agents, Wed Nov 11 2026. No macro, syntax, notation, axiom, sorry.
-/
import Derived.Test.YtfgmgfniolmpkaaDoorRows
import GoSem.ClaimSeven
namespace Go.Proofs.YtfgmgfniolmpkaaDoor
namespace Rows

/-- THE TIED CARD OF 'casematelaw04.HmacOf'. -/
def hmacOfCard : Claim7 := { stood := { row := hmacOfRow, standIns := [], harness := (true, "a2fa1ef506323d8af94554c1ff7b01459aecc5a51dabb558f90e50fc29c8445f"), looks := false }, kinds := [], alts := [], laidByText := true, laidKinds := [.data], laidTests := true, laidLooks := .later }
def HmacOfCardSaid : Prop := Claim7.holds Tryd.pinned (.plain (OpenSpec.ofChange hmacOfSpec)) hmacOfCard

/-- THE TIED CARD OF 'casematelaw04.HmacParts'. -/
def hmacPartsCard : Claim7 := { stood := { row := hmacPartsRow, standIns := [], harness := (true, "a2fa1ef506323d8af94554c1ff7b01459aecc5a51dabb558f90e50fc29c8445f"), looks := false }, kinds := [], alts := [], laidByText := true, laidKinds := [.data], laidTests := true, laidLooks := .later }
def HmacPartsCardSaid : Prop := Claim7.holds Tryd.pinned (.plain (OpenSpec.ofChange hmacPartsSpec)) hmacPartsCard

/-- THE TIED CARD OF 'casematelaw04.HmacStretch'. -/
def hmacStretchCard : Claim7 := { stood := { row := hmacStretchRow, standIns := [], harness := (true, "a2fa1ef506323d8af94554c1ff7b01459aecc5a51dabb558f90e50fc29c8445f"), looks := false }, kinds := [], alts := [], laidByText := true, laidKinds := [.data], laidTests := true, laidLooks := .later }
def HmacStretchCardSaid : Prop := Claim7.holds Tryd.pinned (.plain (OpenSpec.ofChange hmacStretchSpec)) hmacStretchCard

/-- THE TIED CARD OF 'casematelaw04.HmacSame'. -/
def hmacSameCard : Claim7 := { stood := { row := hmacSameRow, standIns := [], harness := (true, "a2fa1ef506323d8af94554c1ff7b01459aecc5a51dabb558f90e50fc29c8445f"), looks := false }, kinds := [], alts := [], laidByText := true, laidKinds := [.data], laidTests := true, laidLooks := .later }
def HmacSameCardSaid : Prop := Claim7.holds Tryd.pinned (.plain (OpenSpec.ofChange hmacSameSpec)) hmacSameCard

/-- THE TIED CARD OF 'casematelaw04.HmacKeys'. -/
def hmacKeysCard : Claim7 := { stood := { row := hmacKeysRow, standIns := [], harness := (true, "a2fa1ef506323d8af94554c1ff7b01459aecc5a51dabb558f90e50fc29c8445f"), looks := false }, kinds := [], alts := [], laidByText := true, laidKinds := [.data], laidTests := true, laidLooks := .later }
def HmacKeysCardSaid : Prop := Claim7.holds Tryd.pinned (.plain (OpenSpec.ofChange hmacKeysSpec)) hmacKeysCard

/-- THE TIED CARD OF 'casematelaw04.HmacCut'. -/
def hmacCutCard : Claim7 := { stood := { row := hmacCutRow, standIns := [], harness := (true, "a2fa1ef506323d8af94554c1ff7b01459aecc5a51dabb558f90e50fc29c8445f"), looks := false }, kinds := [], alts := [], laidByText := true, laidKinds := [.data], laidTests := true, laidLooks := .later }
def HmacCutCardSaid : Prop := Claim7.holds Tryd.pinned (.plain (OpenSpec.ofChange hmacCutSpec)) hmacCutCard

/-- THE TIED CARD OF 'casematelaw04.HmacKnown'. -/
def hmacKnownCard : Claim7 := { stood := { row := hmacKnownRow, standIns := [], harness := (true, "a2fa1ef506323d8af94554c1ff7b01459aecc5a51dabb558f90e50fc29c8445f"), looks := false }, kinds := [], alts := [], laidByText := true, laidKinds := [.data], laidTests := true, laidLooks := .later }
def HmacKnownCardSaid : Prop := Claim7.holds Tryd.pinned (.plain (OpenSpec.ofChange hmacKnownSpec)) hmacKnownCard

/-- THE SECOND FORM's CARD OF 'casematelaw04.HmacOf'. -/
def hmacOfUptoCard : Claim7 := { stood := { row := hmacOfUptoRow, standIns := [], harness := (true, "a2fa1ef506323d8af94554c1ff7b01459aecc5a51dabb558f90e50fc29c8445f"), looks := false }, kinds := [], alts := [], laidByText := true, laidKinds := [.data], laidTests := true, laidLooks := .later }
def HmacOfUptoCardSaid : Prop := Claim7.holds Tryd.pinned (.plain (OpenSpec.upto hmacOfSpec)) hmacOfUptoCard

/-- THE SECOND FORM's CARD OF 'casematelaw04.HmacParts'. -/
def hmacPartsUptoCard : Claim7 := { stood := { row := hmacPartsUptoRow, standIns := [], harness := (true, "a2fa1ef506323d8af94554c1ff7b01459aecc5a51dabb558f90e50fc29c8445f"), looks := false }, kinds := [], alts := [], laidByText := true, laidKinds := [.data], laidTests := true, laidLooks := .later }
def HmacPartsUptoCardSaid : Prop := Claim7.holds Tryd.pinned (.plain (OpenSpec.upto hmacPartsSpec)) hmacPartsUptoCard

/-- THE SECOND FORM's CARD OF 'casematelaw04.HmacStretch'. -/
def hmacStretchUptoCard : Claim7 := { stood := { row := hmacStretchUptoRow, standIns := [], harness := (true, "a2fa1ef506323d8af94554c1ff7b01459aecc5a51dabb558f90e50fc29c8445f"), looks := false }, kinds := [], alts := [], laidByText := true, laidKinds := [.data], laidTests := true, laidLooks := .later }
def HmacStretchUptoCardSaid : Prop := Claim7.holds Tryd.pinned (.plain (OpenSpec.upto hmacStretchSpec)) hmacStretchUptoCard

/-- THE SECOND FORM's CARD OF 'casematelaw04.HmacSame'. -/
def hmacSameUptoCard : Claim7 := { stood := { row := hmacSameUptoRow, standIns := [], harness := (true, "a2fa1ef506323d8af94554c1ff7b01459aecc5a51dabb558f90e50fc29c8445f"), looks := false }, kinds := [], alts := [], laidByText := true, laidKinds := [.data], laidTests := true, laidLooks := .later }
def HmacSameUptoCardSaid : Prop := Claim7.holds Tryd.pinned (.plain (OpenSpec.upto hmacSameSpec)) hmacSameUptoCard

/-- THE SECOND FORM's CARD OF 'casematelaw04.HmacKeys'. -/
def hmacKeysUptoCard : Claim7 := { stood := { row := hmacKeysUptoRow, standIns := [], harness := (true, "a2fa1ef506323d8af94554c1ff7b01459aecc5a51dabb558f90e50fc29c8445f"), looks := false }, kinds := [], alts := [], laidByText := true, laidKinds := [.data], laidTests := true, laidLooks := .later }
def HmacKeysUptoCardSaid : Prop := Claim7.holds Tryd.pinned (.plain (OpenSpec.upto hmacKeysSpec)) hmacKeysUptoCard

/-- THE SECOND FORM's CARD OF 'casematelaw04.HmacCut'. -/
def hmacCutUptoCard : Claim7 := { stood := { row := hmacCutUptoRow, standIns := [], harness := (true, "a2fa1ef506323d8af94554c1ff7b01459aecc5a51dabb558f90e50fc29c8445f"), looks := false }, kinds := [], alts := [], laidByText := true, laidKinds := [.data], laidTests := true, laidLooks := .later }
def HmacCutUptoCardSaid : Prop := Claim7.holds Tryd.pinned (.plain (OpenSpec.upto hmacCutSpec)) hmacCutUptoCard

/-- THE SECOND FORM's CARD OF 'casematelaw04.HmacKnown'. -/
def hmacKnownUptoCard : Claim7 := { stood := { row := hmacKnownUptoRow, standIns := [], harness := (true, "a2fa1ef506323d8af94554c1ff7b01459aecc5a51dabb558f90e50fc29c8445f"), looks := false }, kinds := [], alts := [], laidByText := true, laidKinds := [.data], laidTests := true, laidLooks := .later }
def HmacKnownUptoCardSaid : Prop := Claim7.holds Tryd.pinned (.plain (OpenSpec.upto hmacKnownSpec)) hmacKnownUptoCard
end Rows
end Go.Proofs.YtfgmgfniolmpkaaDoor
