/-
  DERIVED. GIVEN WITH THE SEED: THE CARDS: each row of YtklmjdhhnnanoaaGreatDoorRows.lean that lists a variable, with what it lists TIED to the program's text (the seventh form; the later family's looks); each row that meets fmt, with fmt's text TOLD by the authors' own Lean function (tested against real Go, not proved from fmt's source: count such statements apart). THE CARD IS WHAT COUNTS. Prove the row's statement (the work); the ties are given (YtklmjdhhnnanoaaGreatDoorTie.lean); close each card by the builder's one call (the guide's Derived/Test/ToyasCard.lean, 'card_holds'). Laid BY PROGRAM, IN A SANDBOX (cutbox-door.mjs). By AI agents, Wed Nov 11 2026. No macro, syntax, notation, axiom, sorry.
-/
import Derived.Test.YtklmjdhhnnanoaaGreatDoorRows
import GoSem.ClaimSeven
namespace Go.Proofs.YtklmjdhhnnanoaaGreatDoor
namespace Rows

/-- THE TIED CARD OF 'casematelaw19.MirrorPlays'. -/
def mirrorPlaysCard : Claim7 := { stood := { row := mirrorPlaysRow, standIns := [], harness := (true, "7efdda383701c019b25db376ea8977116ba7dc1da4b84a769ffe413eeb2d6ce6"), looks := true }, kinds := [], alts := [], laidByText := true, laidKinds := [.data], laidTests := true, laidLooks := .later }
def MirrorPlaysCardSaid : Prop := Claim7.holds Tryz.pinned (.plain (OpenSpec.ofChange mirrorPlaysSpec)) mirrorPlaysCard

/-- THE TIED CARD OF 'casematelaw19.MirrorKnown'. -/
def mirrorKnownCard : Claim7 := { stood := { row := mirrorKnownRow, standIns := [], harness := (true, "7efdda383701c019b25db376ea8977116ba7dc1da4b84a769ffe413eeb2d6ce6"), looks := true }, kinds := [], alts := [], laidByText := true, laidKinds := [.data], laidTests := true, laidLooks := .later }
def MirrorKnownCardSaid : Prop := Claim7.holds Tryz.pinned (.plain (OpenSpec.ofChange mirrorKnownSpec)) mirrorKnownCard

/-- THE TIED CARD OF 'casematelaw19.MirrorTwo'. -/
def mirrorTwoCard : Claim7 := { stood := { row := mirrorTwoRow, standIns := [], harness := (true, "7efdda383701c019b25db376ea8977116ba7dc1da4b84a769ffe413eeb2d6ce6"), looks := true }, kinds := [], alts := [], laidByText := true, laidKinds := [.data], laidTests := true, laidLooks := .later }
def MirrorTwoCardSaid : Prop := Claim7.holds Tryz.pinned (.plain (OpenSpec.ofChange mirrorTwoSpec)) mirrorTwoCard

/-- THE TIED CARD OF 'casematelaw19.MirrorReads'. -/
def mirrorReadsCard : Claim7 := { stood := { row := mirrorReadsRow, standIns := [], harness := (true, "7efdda383701c019b25db376ea8977116ba7dc1da4b84a769ffe413eeb2d6ce6"), looks := true }, kinds := [], alts := [], laidByText := true, laidKinds := [.data], laidTests := true, laidLooks := .later }
def MirrorReadsCardSaid : Prop := Claim7.holds Tryz.pinned (.plain (OpenSpec.ofChange mirrorReadsSpec)) mirrorReadsCard

/-- THE SECOND FORM's CARD OF 'casematelaw19.MirrorPlays'. -/
def mirrorPlaysUptoCard : Claim7 := { stood := { row := mirrorPlaysUptoRow, standIns := [], harness := (true, "7efdda383701c019b25db376ea8977116ba7dc1da4b84a769ffe413eeb2d6ce6"), looks := true }, kinds := [], alts := [], laidByText := true, laidKinds := [.data], laidTests := true, laidLooks := .later }
def MirrorPlaysUptoCardSaid : Prop := Claim7.holds Tryz.pinned (.plain (OpenSpec.upto mirrorPlaysSpec)) mirrorPlaysUptoCard

/-- THE SECOND FORM's CARD OF 'casematelaw19.MirrorKnown'. -/
def mirrorKnownUptoCard : Claim7 := { stood := { row := mirrorKnownUptoRow, standIns := [], harness := (true, "7efdda383701c019b25db376ea8977116ba7dc1da4b84a769ffe413eeb2d6ce6"), looks := true }, kinds := [], alts := [], laidByText := true, laidKinds := [.data], laidTests := true, laidLooks := .later }
def MirrorKnownUptoCardSaid : Prop := Claim7.holds Tryz.pinned (.plain (OpenSpec.upto mirrorKnownSpec)) mirrorKnownUptoCard

/-- THE SECOND FORM's CARD OF 'casematelaw19.MirrorTwo'. -/
def mirrorTwoUptoCard : Claim7 := { stood := { row := mirrorTwoUptoRow, standIns := [], harness := (true, "7efdda383701c019b25db376ea8977116ba7dc1da4b84a769ffe413eeb2d6ce6"), looks := true }, kinds := [], alts := [], laidByText := true, laidKinds := [.data], laidTests := true, laidLooks := .later }
def MirrorTwoUptoCardSaid : Prop := Claim7.holds Tryz.pinned (.plain (OpenSpec.upto mirrorTwoSpec)) mirrorTwoUptoCard

/-- THE SECOND FORM's CARD OF 'casematelaw19.MirrorReads'. -/
def mirrorReadsUptoCard : Claim7 := { stood := { row := mirrorReadsUptoRow, standIns := [], harness := (true, "7efdda383701c019b25db376ea8977116ba7dc1da4b84a769ffe413eeb2d6ce6"), looks := true }, kinds := [], alts := [], laidByText := true, laidKinds := [.data], laidTests := true, laidLooks := .later }
def MirrorReadsUptoCardSaid : Prop := Claim7.holds Tryz.pinned (.plain (OpenSpec.upto mirrorReadsSpec)) mirrorReadsUptoCard
end Rows
end Go.Proofs.YtklmjdhhnnanoaaGreatDoor
