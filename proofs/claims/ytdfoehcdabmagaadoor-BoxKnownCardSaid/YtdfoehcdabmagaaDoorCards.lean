/-
  DERIVED. GIVEN WITH THE SEED: THE CARDS: each row of YtdfoehcdabmagaaDoorRows.lean that lists a variable, with what it lists TIED to the program's text (the seventh form; the later family's looks); each row that meets fmt, with fmt's text TOLD by the authors' own Lean function (tested against real Go, not proved from fmt's source: count such statements apart). THE CARD IS WHAT COUNTS. Prove the row's statement (the work); the ties are given (YtdfoehcdabmagaaDoorTie.lean); close each card by the builder's one call (the guide's Derived/Test/ToyasCard.lean, 'card_holds'). Laid BY PROGRAM, IN A SANDBOX (cutbox-door.mjs). By AI agents, Wed Nov 11 2026. No macro, syntax, notation, axiom, sorry.
-/
import Derived.Test.YtdfoehcdabmagaaDoorRows
import GoSem.ClaimSeven
namespace Go.Proofs.YtdfoehcdabmagaaDoor
namespace Rows

/-- THE TIED CARD OF 'casematelaw10.BoxWraps'. -/
def boxWrapsCard : Claim7 := { stood := { row := boxWrapsRow, standIns := [], harness := (true, "582ea5c10cba1bbc6b8eb8cfcf618ecd4830c5480bc8011c4a7393c89cf73ce3"), looks := false }, kinds := [], alts := [], laidByText := true, laidKinds := [.data, .data, .data, .data], laidTests := true, laidLooks := .later }
def BoxWrapsCardSaid : Prop := Claim7.holds Tryd.pinned (.plain (OpenSpec.ofChange boxWrapsSpec)) boxWrapsCard

/-- THE TIED CARD OF 'casematelaw10.BoxLays'. -/
def boxLaysCard : Claim7 := { stood := { row := boxLaysRow, standIns := [], harness := (true, "582ea5c10cba1bbc6b8eb8cfcf618ecd4830c5480bc8011c4a7393c89cf73ce3"), looks := false }, kinds := [], alts := [], laidByText := true, laidKinds := [.data, .data, .data, .data], laidTests := true, laidLooks := .later }
def BoxLaysCardSaid : Prop := Claim7.holds Tryd.pinned (.plain (OpenSpec.ofChange boxLaysSpec)) boxLaysCard

/-- THE TIED CARD OF 'casematelaw10.BoxBack'. -/
def boxBackCard : Claim7 := { stood := { row := boxBackRow, standIns := [], harness := (true, "582ea5c10cba1bbc6b8eb8cfcf618ecd4830c5480bc8011c4a7393c89cf73ce3"), looks := false }, kinds := [], alts := [], laidByText := true, laidKinds := [.data, .data, .data, .data], laidTests := true, laidLooks := .later }
def BoxBackCardSaid : Prop := Claim7.holds Tryd.pinned (.plain (OpenSpec.ofChange boxBackSpec)) boxBackCard

/-- THE TIED CARD OF 'casematelaw10.BoxTold'. -/
def boxToldCard : Claim7 := { stood := { row := boxToldRow, standIns := [], harness := (true, "582ea5c10cba1bbc6b8eb8cfcf618ecd4830c5480bc8011c4a7393c89cf73ce3"), looks := false }, kinds := [], alts := [], laidByText := true, laidKinds := [.data, .data, .data, .data], laidTests := true, laidLooks := .later }
def BoxToldCardSaid : Prop := Claim7.holds Tryd.pinned (.plain (OpenSpec.ofChange boxToldSpec)) boxToldCard

/-- THE TIED CARD OF 'casematelaw10.BoxKnown'. -/
def boxKnownCard : Claim7 := { stood := { row := boxKnownRow, standIns := [], harness := (true, "582ea5c10cba1bbc6b8eb8cfcf618ecd4830c5480bc8011c4a7393c89cf73ce3"), looks := false }, kinds := [], alts := [], laidByText := true, laidKinds := [.data, .data, .data, .data], laidTests := true, laidLooks := .later }
def BoxKnownCardSaid : Prop := Claim7.holds Tryd.pinned (.plain (OpenSpec.ofChange boxKnownSpec)) boxKnownCard

/-- THE SECOND FORM's CARD OF 'casematelaw10.BoxWraps'. -/
def boxWrapsUptoCard : Claim7 := { stood := { row := boxWrapsUptoRow, standIns := [], harness := (true, "582ea5c10cba1bbc6b8eb8cfcf618ecd4830c5480bc8011c4a7393c89cf73ce3"), looks := false }, kinds := [], alts := [], laidByText := true, laidKinds := [.data, .data, .data, .data], laidTests := true, laidLooks := .later }
def BoxWrapsUptoCardSaid : Prop := Claim7.holds Tryd.pinned (.plain (OpenSpec.upto boxWrapsSpec)) boxWrapsUptoCard

/-- THE SECOND FORM's CARD OF 'casematelaw10.BoxLays'. -/
def boxLaysUptoCard : Claim7 := { stood := { row := boxLaysUptoRow, standIns := [], harness := (true, "582ea5c10cba1bbc6b8eb8cfcf618ecd4830c5480bc8011c4a7393c89cf73ce3"), looks := false }, kinds := [], alts := [], laidByText := true, laidKinds := [.data, .data, .data, .data], laidTests := true, laidLooks := .later }
def BoxLaysUptoCardSaid : Prop := Claim7.holds Tryd.pinned (.plain (OpenSpec.upto boxLaysSpec)) boxLaysUptoCard

/-- THE SECOND FORM's CARD OF 'casematelaw10.BoxBack'. -/
def boxBackUptoCard : Claim7 := { stood := { row := boxBackUptoRow, standIns := [], harness := (true, "582ea5c10cba1bbc6b8eb8cfcf618ecd4830c5480bc8011c4a7393c89cf73ce3"), looks := false }, kinds := [], alts := [], laidByText := true, laidKinds := [.data, .data, .data, .data], laidTests := true, laidLooks := .later }
def BoxBackUptoCardSaid : Prop := Claim7.holds Tryd.pinned (.plain (OpenSpec.upto boxBackSpec)) boxBackUptoCard

/-- THE SECOND FORM's CARD OF 'casematelaw10.BoxTold'. -/
def boxToldUptoCard : Claim7 := { stood := { row := boxToldUptoRow, standIns := [], harness := (true, "582ea5c10cba1bbc6b8eb8cfcf618ecd4830c5480bc8011c4a7393c89cf73ce3"), looks := false }, kinds := [], alts := [], laidByText := true, laidKinds := [.data, .data, .data, .data], laidTests := true, laidLooks := .later }
def BoxToldUptoCardSaid : Prop := Claim7.holds Tryd.pinned (.plain (OpenSpec.upto boxToldSpec)) boxToldUptoCard

/-- THE SECOND FORM's CARD OF 'casematelaw10.BoxKnown'. -/
def boxKnownUptoCard : Claim7 := { stood := { row := boxKnownUptoRow, standIns := [], harness := (true, "582ea5c10cba1bbc6b8eb8cfcf618ecd4830c5480bc8011c4a7393c89cf73ce3"), looks := false }, kinds := [], alts := [], laidByText := true, laidKinds := [.data, .data, .data, .data], laidTests := true, laidLooks := .later }
def BoxKnownUptoCardSaid : Prop := Claim7.holds Tryd.pinned (.plain (OpenSpec.upto boxKnownSpec)) boxKnownUptoCard
end Rows
end Go.Proofs.YtdfoehcdabmagaaDoor
