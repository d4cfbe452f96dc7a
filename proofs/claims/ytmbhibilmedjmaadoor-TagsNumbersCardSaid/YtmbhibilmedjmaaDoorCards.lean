/-
  DERIVED. GIVEN WITH THE SEED: THE CARDS: each row of YtmbhibilmedjmaaDoorRows.lean that lists a variable, with what it lists TIED to the program's text (the seventh form; the later family's looks); each row that meets fmt, with fmt's text TOLD by the authors' own Lean function (tested against real Go, not proved from fmt's source: count such statements apart). THE CARD IS WHAT COUNTS. Prove the row's statement (the work); the ties are given (YtmbhibilmedjmaaDoorTie.lean); close each card by the builder's one call (the guide's Derived/Test/ToyasCard.lean, 'card_holds'). Laid BY PROGRAM, IN A SANDBOX (cutbox-door.mjs). By AI agents, Wed Nov 11 2026. No macro, syntax, notation, axiom, sorry.
-/
import Derived.Test.YtmbhibilmedjmaaDoorRows
import GoSem.ClaimSeven
namespace Go.Proofs.YtmbhibilmedjmaaDoor
namespace Rows

/-- THE TIED CARD OF 'casematelaw17.TagsNumbers'. -/
def tagsNumbersCard : Claim7 := { stood := { row := tagsNumbersRow, standIns := [], harness := (true, "c0affcb864aa798ab101a0252b6ff4e56fb141bebdc5157ef8808604e14a45aa"), looks := false }, kinds := [], alts := [], laidByText := true, laidKinds := [.data], laidTests := true, laidLooks := .later }
def TagsNumbersCardSaid : Prop := Claim7.holds Tryd.pinned (.plain (OpenSpec.ofChange tagsNumbersSpec)) tagsNumbersCard

/-- THE TIED CARD OF 'casematelaw17.TagsTexts'. -/
def tagsTextsCard : Claim7 := { stood := { row := tagsTextsRow, standIns := [], harness := (true, "c0affcb864aa798ab101a0252b6ff4e56fb141bebdc5157ef8808604e14a45aa"), looks := false }, kinds := [], alts := [], laidByText := true, laidKinds := [.data], laidTests := true, laidLooks := .later }
def TagsTextsCardSaid : Prop := Claim7.holds Tryd.pinned (.plain (OpenSpec.ofChange tagsTextsSpec)) tagsTextsCard

/-- THE TIED CARD OF 'casematelaw17.TagsKnown'. -/
def tagsKnownCard : Claim7 := { stood := { row := tagsKnownRow, standIns := [], harness := (true, "c0affcb864aa798ab101a0252b6ff4e56fb141bebdc5157ef8808604e14a45aa"), looks := false }, kinds := [], alts := [], laidByText := true, laidKinds := [.data], laidTests := true, laidLooks := .later }
def TagsKnownCardSaid : Prop := Claim7.holds Tryd.pinned (.plain (OpenSpec.ofChange tagsKnownSpec)) tagsKnownCard

/-- THE SECOND FORM's CARD OF 'casematelaw17.TagsNumbers'. -/
def tagsNumbersUptoCard : Claim7 := { stood := { row := tagsNumbersUptoRow, standIns := [], harness := (true, "c0affcb864aa798ab101a0252b6ff4e56fb141bebdc5157ef8808604e14a45aa"), looks := false }, kinds := [], alts := [], laidByText := true, laidKinds := [.data], laidTests := true, laidLooks := .later }
def TagsNumbersUptoCardSaid : Prop := Claim7.holds Tryd.pinned (.plain (OpenSpec.upto tagsNumbersSpec)) tagsNumbersUptoCard

/-- THE SECOND FORM's CARD OF 'casematelaw17.TagsTexts'. -/
def tagsTextsUptoCard : Claim7 := { stood := { row := tagsTextsUptoRow, standIns := [], harness := (true, "c0affcb864aa798ab101a0252b6ff4e56fb141bebdc5157ef8808604e14a45aa"), looks := false }, kinds := [], alts := [], laidByText := true, laidKinds := [.data], laidTests := true, laidLooks := .later }
def TagsTextsUptoCardSaid : Prop := Claim7.holds Tryd.pinned (.plain (OpenSpec.upto tagsTextsSpec)) tagsTextsUptoCard

/-- THE SECOND FORM's CARD OF 'casematelaw17.TagsKnown'. -/
def tagsKnownUptoCard : Claim7 := { stood := { row := tagsKnownUptoRow, standIns := [], harness := (true, "c0affcb864aa798ab101a0252b6ff4e56fb141bebdc5157ef8808604e14a45aa"), looks := false }, kinds := [], alts := [], laidByText := true, laidKinds := [.data], laidTests := true, laidLooks := .later }
def TagsKnownUptoCardSaid : Prop := Claim7.holds Tryd.pinned (.plain (OpenSpec.upto tagsKnownSpec)) tagsKnownUptoCard
end Rows
end Go.Proofs.YtmbhibilmedjmaaDoor
