/-
  DERIVED. GIVEN WITH THE SEED: THE CARDS: each row of YtcpoccahneppiaaDoorRows.lean that lists a variable, with what it lists TIED to the program's text (the seventh form; the later family's looks); each row that meets fmt, with fmt's text TOLD by the authors' own Lean function (tested against real Go, not proved from fmt's source: count such statements apart). THE CARD IS WHAT COUNTS. Prove the row's statement (the work); the ties are given (YtcpoccahneppiaaDoorTie.lean); close each card by the builder's one call (the guide's Derived/Test/ToyasCard.lean, 'card_holds'). Laid BY PROGRAM, IN A SANDBOX (cutbox-door.mjs). By AI agents, Wed Nov 11 2026. No macro, syntax, notation, axiom, sorry.
-/
import Derived.Test.YtcpoccahneppiaaDoorRows
import GoSem.ClaimSeven
namespace Go.Proofs.YtcpoccahneppiaaDoor
namespace Rows

/-- THE TIED CARD OF 'casematelaw03.ShaKeyed'. -/
def shaKeyedCard : Claim7 := { stood := { row := shaKeyedRow, standIns := [], harness := (true, "31364081d75cfbec62ddf144efbf71084af575ed031c35004a152f90dbb3bd75"), looks := false }, kinds := [], alts := [], laidByText := true, laidKinds := [.data], laidTests := true, laidLooks := .later }
def ShaKeyedCardSaid : Prop := Claim7.holds Tryd.pinned (.plain (OpenSpec.ofChange shaKeyedSpec)) shaKeyedCard

/-- THE TIED CARD OF 'casematelaw03.ShaSpelt'. -/
def shaSpeltCard : Claim7 := { stood := { row := shaSpeltRow, standIns := [], harness := (true, "31364081d75cfbec62ddf144efbf71084af575ed031c35004a152f90dbb3bd75"), looks := false }, kinds := [], alts := [], laidByText := true, laidKinds := [.data], laidTests := true, laidLooks := .later }
def ShaSpeltCardSaid : Prop := Claim7.holds Tryd.pinned (.plain (OpenSpec.ofChange shaSpeltSpec)) shaSpeltCard

/-- THE TIED CARD OF 'casematelaw03.ShaKnown'. -/
def shaKnownCard : Claim7 := { stood := { row := shaKnownRow, standIns := [], harness := (true, "31364081d75cfbec62ddf144efbf71084af575ed031c35004a152f90dbb3bd75"), looks := false }, kinds := [], alts := [], laidByText := true, laidKinds := [.data], laidTests := true, laidLooks := .later }
def ShaKnownCardSaid : Prop := Claim7.holds Tryd.pinned (.plain (OpenSpec.ofChange shaKnownSpec)) shaKnownCard

/-- THE TIED CARD OF 'casematelaw03.ShaOnce'. -/
def shaOnceCard : Claim7 := { stood := { row := shaOnceRow, standIns := [], harness := (true, "31364081d75cfbec62ddf144efbf71084af575ed031c35004a152f90dbb3bd75"), looks := false }, kinds := [], alts := [], laidByText := true, laidKinds := [.data], laidTests := true, laidLooks := .later }
def ShaOnceCardSaid : Prop := Claim7.holds Tryd.pinned (.plain (OpenSpec.ofChange shaOnceSpec)) shaOnceCard

/-- THE TIED CARD OF 'casematelaw03.ShaTwoBlocks'. -/
def shaTwoBlocksCard : Claim7 := { stood := { row := shaTwoBlocksRow, standIns := [], harness := (true, "31364081d75cfbec62ddf144efbf71084af575ed031c35004a152f90dbb3bd75"), looks := false }, kinds := [], alts := [], laidByText := true, laidKinds := [.data], laidTests := true, laidLooks := .later }
def ShaTwoBlocksCardSaid : Prop := Claim7.holds Tryd.pinned (.plain (OpenSpec.ofChange shaTwoBlocksSpec)) shaTwoBlocksCard

/-- THE TIED CARD OF 'casematelaw03.ShaSpeltBack'. -/
def shaSpeltBackCard : Claim7 := { stood := { row := shaSpeltBackRow, standIns := [], harness := (true, "31364081d75cfbec62ddf144efbf71084af575ed031c35004a152f90dbb3bd75"), looks := false }, kinds := [], alts := [], laidByText := true, laidKinds := [.data], laidTests := true, laidLooks := .later }
def ShaSpeltBackCardSaid : Prop := Claim7.holds Tryd.pinned (.plain (OpenSpec.ofChange shaSpeltBackSpec)) shaSpeltBackCard

/-- THE SECOND FORM's CARD OF 'casematelaw03.ShaKeyed'. -/
def shaKeyedUptoCard : Claim7 := { stood := { row := shaKeyedUptoRow, standIns := [], harness := (true, "31364081d75cfbec62ddf144efbf71084af575ed031c35004a152f90dbb3bd75"), looks := false }, kinds := [], alts := [], laidByText := true, laidKinds := [.data], laidTests := true, laidLooks := .later }
def ShaKeyedUptoCardSaid : Prop := Claim7.holds Tryd.pinned (.plain (OpenSpec.upto shaKeyedSpec)) shaKeyedUptoCard

/-- THE SECOND FORM's CARD OF 'casematelaw03.ShaSpelt'. -/
def shaSpeltUptoCard : Claim7 := { stood := { row := shaSpeltUptoRow, standIns := [], harness := (true, "31364081d75cfbec62ddf144efbf71084af575ed031c35004a152f90dbb3bd75"), looks := false }, kinds := [], alts := [], laidByText := true, laidKinds := [.data], laidTests := true, laidLooks := .later }
def ShaSpeltUptoCardSaid : Prop := Claim7.holds Tryd.pinned (.plain (OpenSpec.upto shaSpeltSpec)) shaSpeltUptoCard

/-- THE SECOND FORM's CARD OF 'casematelaw03.ShaKnown'. -/
def shaKnownUptoCard : Claim7 := { stood := { row := shaKnownUptoRow, standIns := [], harness := (true, "31364081d75cfbec62ddf144efbf71084af575ed031c35004a152f90dbb3bd75"), looks := false }, kinds := [], alts := [], laidByText := true, laidKinds := [.data], laidTests := true, laidLooks := .later }
def ShaKnownUptoCardSaid : Prop := Claim7.holds Tryd.pinned (.plain (OpenSpec.upto shaKnownSpec)) shaKnownUptoCard

/-- THE SECOND FORM's CARD OF 'casematelaw03.ShaOnce'. -/
def shaOnceUptoCard : Claim7 := { stood := { row := shaOnceUptoRow, standIns := [], harness := (true, "31364081d75cfbec62ddf144efbf71084af575ed031c35004a152f90dbb3bd75"), looks := false }, kinds := [], alts := [], laidByText := true, laidKinds := [.data], laidTests := true, laidLooks := .later }
def ShaOnceUptoCardSaid : Prop := Claim7.holds Tryd.pinned (.plain (OpenSpec.upto shaOnceSpec)) shaOnceUptoCard

/-- THE SECOND FORM's CARD OF 'casematelaw03.ShaTwoBlocks'. -/
def shaTwoBlocksUptoCard : Claim7 := { stood := { row := shaTwoBlocksUptoRow, standIns := [], harness := (true, "31364081d75cfbec62ddf144efbf71084af575ed031c35004a152f90dbb3bd75"), looks := false }, kinds := [], alts := [], laidByText := true, laidKinds := [.data], laidTests := true, laidLooks := .later }
def ShaTwoBlocksUptoCardSaid : Prop := Claim7.holds Tryd.pinned (.plain (OpenSpec.upto shaTwoBlocksSpec)) shaTwoBlocksUptoCard

/-- THE SECOND FORM's CARD OF 'casematelaw03.ShaSpeltBack'. -/
def shaSpeltBackUptoCard : Claim7 := { stood := { row := shaSpeltBackUptoRow, standIns := [], harness := (true, "31364081d75cfbec62ddf144efbf71084af575ed031c35004a152f90dbb3bd75"), looks := false }, kinds := [], alts := [], laidByText := true, laidKinds := [.data], laidTests := true, laidLooks := .later }
def ShaSpeltBackUptoCardSaid : Prop := Claim7.holds Tryd.pinned (.plain (OpenSpec.upto shaSpeltBackSpec)) shaSpeltBackUptoCard
end Rows
end Go.Proofs.YtcpoccahneppiaaDoor
