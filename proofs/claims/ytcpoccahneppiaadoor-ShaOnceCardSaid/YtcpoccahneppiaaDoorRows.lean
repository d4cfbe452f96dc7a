/-
  NARROWER THAN 'FOR EVERY INPUT', by the rows' own cells (each row's printed sentence says how): ShaKeyed: laid · ShaSpelt: laid · ShaKnown: laid · ShaOnce: laid · ShaTwoBlocks: laid · ShaSpeltBack: laid.
  DERIVED. THE GIVEN ROWS OF THIS SEAT. 6 by the template 'for every input the law returns true; each argument reads behind the call as it read before'; 0 by the template 'total and deterministic' (their statements: YtcpoccahneppiaaDoorTotals.lean).
  GIVEN WITH THE SEED: the statements are not yours to turn. If you find one false, say at which input.
  Laid BY PROGRAM, IN A SANDBOX (cutbox-rows.mjs): the forced cells as the released guide's own fill.sh prints them over the translation 01061b77821aee04… (all of the seat's roots in one cut). By AI agents, Wed Nov 11 2026. No macro, syntax, notation, axiom, sorry.
-/
import Derived.Test.YtcpoccahneppiaaDoorChecked
import GoSem.Claim
import GoSem.ClaimJoined
import GoSem.ClaimMapViews
import Derived.JoinedTies
import Derived.KernelRfl
namespace Go.Proofs.YtcpoccahneppiaaDoor
/- THE CELL 'sum', in the pinned program and in every row, IS THE sha256 OF THE DUMP (.gsa) THAT YtcpoccahneppiaaDoorProg.lean LOADS. Nothing in Lean hashes anything: it is a label: what it is worth is what the hold of that sum in a sandbox is worth. -/
noncomputable def Tryd.pinned : Pinned := { name := "ytcpoccahneppiaadoor", sum := "01061b77821aee043667f32cd31af23897676dd362342b38bd363b884e9ee2d1", checked := Tryd.checked }
namespace Rows
def none {H : Type} : Left H := { results := [], args := [] }

/- WHAT THE LISTED PACKAGE-LEVEL VARIABLES READ AS WHEN THE CALL BEGINS. Each datum BY PROGRAM (the guide's laid-datum.mjs) off the statement by which the dump's own 'gosem.cut.vars' lays the variable. In a bare row this is a premise. The card (YtcpoccahneppiaaDoorCards.lean) ties it to the program's text. -/
def laid_casemate_sha_salts {H : Type} : DataW H := .agg [.lit (.int .u32 1116352408), .lit (.int .u32 1899447441), .lit (.int .u32 3049323471), .lit (.int .u32 3921009573), .lit (.int .u32 961987163), .lit (.int .u32 1508970993), .lit (.int .u32 2453635748), .lit (.int .u32 2870763221), .lit (.int .u32 3624381080), .lit (.int .u32 310598401), .lit (.int .u32 607225278), .lit (.int .u32 1426881987), .lit (.int .u32 1925078388), .lit (.int .u32 2162078206), .lit (.int .u32 2614888103), .lit (.int .u32 3248222580), .lit (.int .u32 3835390401), .lit (.int .u32 4022224774), .lit (.int .u32 264347078), .lit (.int .u32 604807628), .lit (.int .u32 770255983), .lit (.int .u32 1249150122), .lit (.int .u32 1555081692), .lit (.int .u32 1996064986), .lit (.int .u32 2554220882), .lit (.int .u32 2821834349), .lit (.int .u32 2952996808), .lit (.int .u32 3210313671), .lit (.int .u32 3336571891), .lit (.int .u32 3584528711), .lit (.int .u32 113926993), .lit (.int .u32 338241895), .lit (.int .u32 666307205), .lit (.int .u32 773529912), .lit (.int .u32 1294757372), .lit (.int .u32 1396182291), .lit (.int .u32 1695183700), .lit (.int .u32 1986661051), .lit (.int .u32 2177026350), .lit (.int .u32 2456956037), .lit (.int .u32 2730485921), .lit (.int .u32 2820302411), .lit (.int .u32 3259730800), .lit (.int .u32 3345764771), .lit (.int .u32 3516065817), .lit (.int .u32 3600352804), .lit (.int .u32 4094571909), .lit (.int .u32 275423344), .lit (.int .u32 430227734), .lit (.int .u32 506948616), .lit (.int .u32 659060556), .lit (.int .u32 883997877), .lit (.int .u32 958139571), .lit (.int .u32 1322822218), .lit (.int .u32 1537002063), .lit (.int .u32 1747873779), .lit (.int .u32 1955562222), .lit (.int .u32 2024104815), .lit (.int .u32 2227730452), .lit (.int .u32 2361852424), .lit (.int .u32 2428436474), .lit (.int .u32 2756734187), .lit (.int .u32 3204031479), .lit (.int .u32 3329325298)]

/-- 'casematelaw03.ShaKeyed': WHATEVER THE INPUT: true; the input reads as it did. -/
def shaKeyedSpec : ChangeSpec := { name := "shaKeyed", fn := fun _ => fun
  | [d1, d2] => { results := [.lit (.bool true)], args := [d1, d2] }
  | _ => none }
def shaKeyedRow : OpenClaim := { program := "ytcpoccahneppiaadoor", sum := "01061b77821aee043667f32cd31af23897676dd362342b38bd363b884e9ee2d1", func := "casemate/casematelaw03.ShaKeyed", spec := "shaKeyed", inPlace := ["internal/abi.NoEscape"], unfollowed := true, recurses := true, named := ["casemate/sha.salts"], apart := false, laid := [("casemate/sha.salts", laid_casemate_sha_salts)] }
def ShaKeyedSaid : Prop := shaKeyedRow.holds Tryd.pinned (OpenSpec.ofChange shaKeyedSpec)

/-- ITS FALSE NEIGHBOUR: 'it returns false'. Refute it at one input. -/
def shaKeyedWrong : ChangeSpec := { name := "shaKeyed", fn := fun _ => fun
  | [d1, d2] => { results := [.lit (.bool false)], args := [d1, d2] }
  | _ => none }
def ShaKeyedWrongFalsely : Prop := shaKeyedRow.holds Tryd.pinned (OpenSpec.ofChange shaKeyedWrong)

/-- 'casematelaw03.ShaSpelt': WHATEVER THE INPUT: true; the input reads as it did. -/
def shaSpeltSpec : ChangeSpec := { name := "shaSpelt", fn := fun _ => fun
  | [d1, d2] => { results := [.lit (.bool true)], args := [d1, d2] }
  | _ => none }
def shaSpeltRow : OpenClaim := { program := "ytcpoccahneppiaadoor", sum := "01061b77821aee043667f32cd31af23897676dd362342b38bd363b884e9ee2d1", func := "casemate/casematelaw03.ShaSpelt", spec := "shaSpelt", inPlace := ["internal/abi.NoEscape", "internal/bytealg.IndexByteString"], unfollowed := true, recurses := true, named := ["casemate/sha.salts"], apart := false, laid := [("casemate/sha.salts", laid_casemate_sha_salts)] }
def ShaSpeltSaid : Prop := shaSpeltRow.holds Tryd.pinned (OpenSpec.ofChange shaSpeltSpec)

/-- ITS FALSE NEIGHBOUR: 'it returns false'. Refute it at one input. -/
def shaSpeltWrong : ChangeSpec := { name := "shaSpelt", fn := fun _ => fun
  | [d1, d2] => { results := [.lit (.bool false)], args := [d1, d2] }
  | _ => none }
def ShaSpeltWrongFalsely : Prop := shaSpeltRow.holds Tryd.pinned (OpenSpec.ofChange shaSpeltWrong)

/-- 'casematelaw03.ShaKnown': WHATEVER THE INPUT: true; the input reads as it did. -/
def shaKnownSpec : ChangeSpec := { name := "shaKnown", fn := fun _ => fun
  | [] => { results := [.lit (.bool true)], args := [] }
  | _ => none }
def shaKnownRow : OpenClaim := { program := "ytcpoccahneppiaadoor", sum := "01061b77821aee043667f32cd31af23897676dd362342b38bd363b884e9ee2d1", func := "casemate/casematelaw03.ShaKnown", spec := "shaKnown", inPlace := ["internal/abi.NoEscape", "internal/bytealg.IndexByteString"], unfollowed := true, recurses := true, named := ["casemate/sha.salts"], apart := false, laid := [("casemate/sha.salts", laid_casemate_sha_salts)] }
def ShaKnownSaid : Prop := shaKnownRow.holds Tryd.pinned (OpenSpec.ofChange shaKnownSpec)

/-- ITS FALSE NEIGHBOUR: 'it returns false'. Refute it at one input. -/
def shaKnownWrong : ChangeSpec := { name := "shaKnown", fn := fun _ => fun
  | [] => { results := [.lit (.bool false)], args := [] }
  | _ => none }
def ShaKnownWrongFalsely : Prop := shaKnownRow.holds Tryd.pinned (OpenSpec.ofChange shaKnownWrong)

/-- 'casematelaw03.ShaOnce': WHATEVER THE INPUT: true; the input reads as it did. -/
def shaOnceSpec : ChangeSpec := { name := "shaOnce", fn := fun _ => fun
  | [d1, d2, d3] => { results := [.lit (.bool true)], args := [d1, d2, d3] }
  | _ => none }
def shaOnceRow : OpenClaim := { program := "ytcpoccahneppiaadoor", sum := "01061b77821aee043667f32cd31af23897676dd362342b38bd363b884e9ee2d1", func := "casemate/casematelaw03.ShaOnce", spec := "shaOnce", inPlace := ["internal/abi.NoEscape"], unfollowed := true, recurses := true, named := ["casemate/sha.salts"], apart := false, laid := [("casemate/sha.salts", laid_casemate_sha_salts)] }
def ShaOnceSaid : Prop := shaOnceRow.holds Tryd.pinned (OpenSpec.ofChange shaOnceSpec)

/-- ITS FALSE NEIGHBOUR: 'it returns false'. Refute it at one input. -/
def shaOnceWrong : ChangeSpec := { name := "shaOnce", fn := fun _ => fun
  | [d1, d2, d3] => { results := [.lit (.bool false)], args := [d1, d2, d3] }
  | _ => none }
def ShaOnceWrongFalsely : Prop := shaOnceRow.holds Tryd.pinned (OpenSpec.ofChange shaOnceWrong)

/-- 'casematelaw03.ShaTwoBlocks': WHATEVER THE INPUT: true; the input reads as it did. -/
def shaTwoBlocksSpec : ChangeSpec := { name := "shaTwoBlocks", fn := fun _ => fun
  | [d1, d2, d3] => { results := [.lit (.bool true)], args := [d1, d2, d3] }
  | _ => none }
def shaTwoBlocksRow : OpenClaim := { program := "ytcpoccahneppiaadoor", sum := "01061b77821aee043667f32cd31af23897676dd362342b38bd363b884e9ee2d1", func := "casemate/casematelaw03.ShaTwoBlocks", spec := "shaTwoBlocks", inPlace := ["internal/abi.NoEscape"], unfollowed := true, recurses := true, named := ["casemate/sha.salts"], apart := false, laid := [("casemate/sha.salts", laid_casemate_sha_salts)] }
def ShaTwoBlocksSaid : Prop := shaTwoBlocksRow.holds Tryd.pinned (OpenSpec.ofChange shaTwoBlocksSpec)

/-- ITS FALSE NEIGHBOUR: 'it returns false'. Refute it at one input. -/
def shaTwoBlocksWrong : ChangeSpec := { name := "shaTwoBlocks", fn := fun _ => fun
  | [d1, d2, d3] => { results := [.lit (.bool false)], args := [d1, d2, d3] }
  | _ => none }
def ShaTwoBlocksWrongFalsely : Prop := shaTwoBlocksRow.holds Tryd.pinned (OpenSpec.ofChange shaTwoBlocksWrong)

/-- 'casematelaw03.ShaSpeltBack': WHATEVER THE INPUT: true; the input reads as it did. -/
def shaSpeltBackSpec : ChangeSpec := { name := "shaSpeltBack", fn := fun _ => fun
  | [d1, d2] => { results := [.lit (.bool true)], args := [d1, d2] }
  | _ => none }
def shaSpeltBackRow : OpenClaim := { program := "ytcpoccahneppiaadoor", sum := "01061b77821aee043667f32cd31af23897676dd362342b38bd363b884e9ee2d1", func := "casemate/casematelaw03.ShaSpeltBack", spec := "shaSpeltBack", inPlace := ["internal/abi.NoEscape", "internal/bytealg.IndexByteString"], unfollowed := true, recurses := true, named := ["casemate/sha.salts"], apart := false, laid := [("casemate/sha.salts", laid_casemate_sha_salts)] }
def ShaSpeltBackSaid : Prop := shaSpeltBackRow.holds Tryd.pinned (OpenSpec.ofChange shaSpeltBackSpec)

/-- ITS FALSE NEIGHBOUR: 'it returns false'. Refute it at one input. -/
def shaSpeltBackWrong : ChangeSpec := { name := "shaSpeltBack", fn := fun _ => fun
  | [d1, d2] => { results := [.lit (.bool false)], args := [d1, d2] }
  | _ => none }
def ShaSpeltBackWrongFalsely : Prop := shaSpeltBackRow.holds Tryd.pinned (OpenSpec.ofChange shaSpeltBackWrong)

/- THE SECOND FORM. 'bulk': how many values and letters a reading holds, each counted each time it is reached (what is shared counts as often as it is met; a slice's spare places count too). A statement '..UptoSaid' is the law's where the arguments, and the package variables that the reading takes, are together of bulk at most 1048576: NARROWER than '..Said'. Prove '..Said' where nothing that the law and all that it calls make is longer than what came in: it says more and counts as full. Else prove '..UptoSaid'. A law counts once. -/
mutual
def uptoBulk {H : Type} : DataW H → Nat
  | .lit (.string bytes) => bytes.length + 1
  | .lit _ => 1
  | .nil => 1
  | .ptr d => uptoBulk d + 1
  | .slice elems spare => uptoBulkAll elems + uptoBulkAll spare + 1
  | .agg parts => uptoBulkAll parts + 1
  | .iface _ d => uptoBulk d + 1
  | .map entries => uptoBulkEntries entries + 1
  | .held _ => 1
def uptoBulkAll {H : Type} : List (DataW H) → Nat
  | [] => 0
  | d :: r => uptoBulk d + uptoBulkAll r
def uptoBulkEntries {H : Type} : List (Lit × DataW H) → Nat
  | [] => 0
  | x :: r => uptoBulkEntry x + uptoBulkEntries r
def uptoBulkEntry {H : Type} : Lit × DataW H → Nat
  | (.string bytes, d) => bytes.length + uptoBulk d + 1
  | (_, d) => uptoBulk d + 1
 end
def uptoSmall : (H : Type) → List (DataW H) → Bool := fun _ ds => decide (uptoBulkAll ds ≤ 1048576)
def OpenSpec.upto (s : _root_.Go.ChangeSpec) : _root_.Go.OpenSpec := { _root_.Go.OpenSpec.ofChange s with cond := some uptoSmall }

/-- 'casematelaw03.ShaKeyed', WHERE WHAT IT READS IS OF BULK AT MOST 1048576: true; the input reads as it did. -/
def shaKeyedUptoRow : OpenClaim := { program := "ytcpoccahneppiaadoor", sum := "01061b77821aee043667f32cd31af23897676dd362342b38bd363b884e9ee2d1", func := "casemate/casematelaw03.ShaKeyed", spec := "shaKeyed", inPlace := ["internal/abi.NoEscape"], unfollowed := true, recurses := true, named := ["casemate/sha.salts"], apart := false, laid := [("casemate/sha.salts", laid_casemate_sha_salts)], narrowed := true }
def ShaKeyedUptoSaid : Prop := shaKeyedUptoRow.holds Tryd.pinned (OpenSpec.upto shaKeyedSpec)

/-- 'casematelaw03.ShaSpelt', WHERE WHAT IT READS IS OF BULK AT MOST 1048576: true; the input reads as it did. -/
def shaSpeltUptoRow : OpenClaim := { program := "ytcpoccahneppiaadoor", sum := "01061b77821aee043667f32cd31af23897676dd362342b38bd363b884e9ee2d1", func := "casemate/casematelaw03.ShaSpelt", spec := "shaSpelt", inPlace := ["internal/abi.NoEscape", "internal/bytealg.IndexByteString"], unfollowed := true, recurses := true, named := ["casemate/sha.salts"], apart := false, laid := [("casemate/sha.salts", laid_casemate_sha_salts)], narrowed := true }
def ShaSpeltUptoSaid : Prop := shaSpeltUptoRow.holds Tryd.pinned (OpenSpec.upto shaSpeltSpec)

/-- 'casematelaw03.ShaKnown', WHERE WHAT IT READS IS OF BULK AT MOST 1048576: true; the input reads as it did. -/
def shaKnownUptoRow : OpenClaim := { program := "ytcpoccahneppiaadoor", sum := "01061b77821aee043667f32cd31af23897676dd362342b38bd363b884e9ee2d1", func := "casemate/casematelaw03.ShaKnown", spec := "shaKnown", inPlace := ["internal/abi.NoEscape", "internal/bytealg.IndexByteString"], unfollowed := true, recurses := true, named := ["casemate/sha.salts"], apart := false, laid := [("casemate/sha.salts", laid_casemate_sha_salts)], narrowed := true }
def ShaKnownUptoSaid : Prop := shaKnownUptoRow.holds Tryd.pinned (OpenSpec.upto shaKnownSpec)

/-- 'casematelaw03.ShaOnce', WHERE WHAT IT READS IS OF BULK AT MOST 1048576: true; the input reads as it did. -/
def shaOnceUptoRow : OpenClaim := { program := "ytcpoccahneppiaadoor", sum := "01061b77821aee043667f32cd31af23897676dd362342b38bd363b884e9ee2d1", func := "casemate/casematelaw03.ShaOnce", spec := "shaOnce", inPlace := ["internal/abi.NoEscape"], unfollowed := true, recurses := true, named := ["casemate/sha.salts"], apart := false, laid := [("casemate/sha.salts", laid_casemate_sha_salts)], narrowed := true }
def ShaOnceUptoSaid : Prop := shaOnceUptoRow.holds Tryd.pinned (OpenSpec.upto shaOnceSpec)

/-- 'casematelaw03.ShaTwoBlocks', WHERE WHAT IT READS IS OF BULK AT MOST 1048576: true; the input reads as it did. -/
def shaTwoBlocksUptoRow : OpenClaim := { program := "ytcpoccahneppiaadoor", sum := "01061b77821aee043667f32cd31af23897676dd362342b38bd363b884e9ee2d1", func := "casemate/casematelaw03.ShaTwoBlocks", spec := "shaTwoBlocks", inPlace := ["internal/abi.NoEscape"], unfollowed := true, recurses := true, named := ["casemate/sha.salts"], apart := false, laid := [("casemate/sha.salts", laid_casemate_sha_salts)], narrowed := true }
def ShaTwoBlocksUptoSaid : Prop := shaTwoBlocksUptoRow.holds Tryd.pinned (OpenSpec.upto shaTwoBlocksSpec)

/-- 'casematelaw03.ShaSpeltBack', WHERE WHAT IT READS IS OF BULK AT MOST 1048576: true; the input reads as it did. -/
def shaSpeltBackUptoRow : OpenClaim := { program := "ytcpoccahneppiaadoor", sum := "01061b77821aee043667f32cd31af23897676dd362342b38bd363b884e9ee2d1", func := "casemate/casematelaw03.ShaSpeltBack", spec := "shaSpeltBack", inPlace := ["internal/abi.NoEscape", "internal/bytealg.IndexByteString"], unfollowed := true, recurses := true, named := ["casemate/sha.salts"], apart := false, laid := [("casemate/sha.salts", laid_casemate_sha_salts)], narrowed := true }
def ShaSpeltBackUptoSaid : Prop := shaSpeltBackUptoRow.holds Tryd.pinned (OpenSpec.upto shaSpeltBackSpec)

end Rows
end Go.Proofs.YtcpoccahneppiaaDoor
