/-
  NARROWER THAN 'FOR EVERY INPUT', by the rows' own cells (each row's printed sentence says how): DecodeGets: laid · DecodePuts: laid · DecodeBack: laid · DecodeLeast: laid.
  DERIVED. THE GIVEN ROWS OF THIS SEAT. 4 by the template 'for every input the law returns true; each argument reads behind the call as it read before'; 0 by the template 'total and deterministic' (their statements: YtbgcgomefdblpaaDoorTotals.lean).
  GIVEN WITH THE SEED: the statements are not yours to turn. If you find one false, say at which input.
  Laid BY PROGRAM, IN A SANDBOX (cutbox-rows.mjs): the forced cells as the released guide's own fill.sh prints them over the translation 476daca20ab74ffa… (all of the seat's roots in one cut). By AI agents, Wed Nov 11 2026. No macro, syntax, notation, axiom, sorry.
-/
import Derived.Test.YtbgcgomefdblpaaDoorChecked
import GoSem.Claim
import GoSem.ClaimJoined
import GoSem.ClaimMapViews
import Derived.JoinedTies
import Derived.KernelRfl
namespace Go.Proofs.YtbgcgomefdblpaaDoor
/- THE CELL 'sum', in the pinned program and in every row, IS THE sha256 OF THE DUMP (.gsa) THAT YtbgcgomefdblpaaDoorProg.lean LOADS. Nothing in Lean hashes anything: it is a label: what it is worth is what the hold of that sum in a sandbox is worth. -/
noncomputable def Tryd.pinned : Pinned := { name := "ytbgcgomefdblpaadoor", sum := "476daca20ab74ffa2e869f3fbd78d5d6e9627a6d3a57d03ce73901ba3b454f37", checked := Tryd.checked }
namespace Rows
def none {H : Type} : Left H := { results := [], args := [] }

/- WHAT THE LISTED PACKAGE-LEVEL VARIABLES READ AS WHEN THE CALL BEGINS. Each datum BY PROGRAM (the guide's laid-datum.mjs) off the statement by which the dump's own 'gosem.cut.vars' lays the variable. In a bare row this is a premise. The card (YtbgcgomefdblpaaDoorCards.lean) ties it to the program's text. -/
def laid_augury_decode_rows {H : Type} : DataW H := .agg [.agg [.lit (.int .u8 1), .lit (.int .u8 1), .lit (.int .u8 0), .lit (.int .u32 55)], .agg [.lit (.int .u8 2), .lit (.int .u8 2), .lit (.int .u8 0), .lit (.int .u32 23)], .agg [.lit (.int .u8 3), .lit (.int .u8 3), .lit (.int .u8 1), .lit (.int .u32 111)], .agg [.lit (.int .u8 4), .lit (.int .u8 4), .lit (.int .u8 2), .lit (.int .u32 103)], .agg [.lit (.int .u8 5), .lit (.int .u8 7), .lit (.int .u8 2), .lit (.int .u32 3)], .agg [.lit (.int .u8 8), .lit (.int .u8 9), .lit (.int .u8 2), .lit (.int .u32 16387)], .agg [.lit (.int .u8 10), .lit (.int .u8 10), .lit (.int .u8 2), .lit (.int .u32 19)], .agg [.lit (.int .u8 11), .lit (.int .u8 13), .lit (.int .u8 2), .lit (.int .u32 8211)], .agg [.lit (.int .u8 14), .lit (.int .u8 15), .lit (.int .u8 2), .lit (.int .u32 24595)], .agg [.lit (.int .u8 16), .lit (.int .u8 16), .lit (.int .u8 3), .lit (.int .u32 4115)], .agg [.lit (.int .u8 17), .lit (.int .u8 17), .lit (.int .u8 3), .lit (.int .u32 20499)], .agg [.lit (.int .u8 18), .lit (.int .u8 18), .lit (.int .u8 3), .lit (.int .u32 1073762323)], .agg [.lit (.int .u8 19), .lit (.int .u8 21), .lit (.int .u8 4), .lit (.int .u32 35)], .agg [.lit (.int .u8 22), .lit (.int .u8 23), .lit (.int .u8 5), .lit (.int .u32 99)], .agg [.lit (.int .u8 24), .lit (.int .u8 27), .lit (.int .u8 5), .lit (.int .u32 16483)], .agg [.lit (.int .u8 28), .lit (.int .u8 28), .lit (.int .u8 6), .lit (.int .u32 51)], .agg [.lit (.int .u8 29), .lit (.int .u8 29), .lit (.int .u8 6), .lit (.int .u32 1073741875)], .agg [.lit (.int .u8 30), .lit (.int .u8 34), .lit (.int .u8 6), .lit (.int .u32 4147)], .agg [.lit (.int .u8 35), .lit (.int .u8 35), .lit (.int .u8 6), .lit (.int .u32 1073762355)], .agg [.lit (.int .u8 36), .lit (.int .u8 37), .lit (.int .u8 6), .lit (.int .u32 24627)], .agg [.lit (.int .u8 38), .lit (.int .u8 45), .lit (.int .u8 6), .lit (.int .u32 33554483)], .agg [.lit (.int .u8 46), .lit (.int .u8 46), .lit (.int .u8 7), .lit (.int .u32 268443695)], .agg [.lit (.int .u8 47), .lit (.int .u8 47), .lit (.int .u8 8), .lit (.int .u32 402661423)], .agg [.lit (.int .u8 48), .lit (.int .u8 48), .lit (.int .u8 8), .lit (.int .u32 134225967)], .agg [.lit (.int .u8 49), .lit (.int .u8 49), .lit (.int .u8 8), .lit (.int .u32 8239)], .agg [.lit (.int .u8 50), .lit (.int .u8 50), .lit (.int .u8 8), .lit (.int .u32 536879151)], .agg [.lit (.int .u8 51), .lit (.int .u8 51), .lit (.int .u8 8), .lit (.int .u32 1610620975)], .agg [.lit (.int .u8 52), .lit (.int .u8 52), .lit (.int .u8 8), .lit (.int .u32 1073750063)], .agg [.lit (.int .u8 53), .lit (.int .u8 53), .lit (.int .u8 8), .lit (.int .u32 2147491887)], .agg [.lit (.int .u8 54), .lit (.int .u8 54), .lit (.int .u8 8), .lit (.int .u32 2684362799)], .agg [.lit (.int .u8 55), .lit (.int .u8 55), .lit (.int .u8 8), .lit (.int .u32 3221233711)], .agg [.lit (.int .u8 56), .lit (.int .u8 56), .lit (.int .u8 8), .lit (.int .u32 3758104623)], .agg [.lit (.int .u8 57), .lit (.int .u8 59), .lit (.int .u8 9), .lit (.int .u32 4211)], .agg [.lit (.int .u8 60), .lit (.int .u8 62), .lit (.int .u8 10), .lit (.int .u32 20595)], .agg [.lit (.int .u8 63), .lit (.int .u8 64), .lit (.int .u8 11), .lit (.int .u32 15)], .agg [.lit (.int .u8 65), .lit (.int .u8 65), .lit (.int .u8 12), .lit (.int .u32 115)], .agg [.lit (.int .u8 66), .lit (.int .u8 66), .lit (.int .u8 12), .lit (.int .u32 1048691)], .agg [.lit (.int .u8 67), .lit (.int .u8 67), .lit (.int .u8 12), .lit (.int .u32 807403635)], .agg [.lit (.int .u8 68), .lit (.int .u8 68), .lit (.int .u8 12), .lit (.int .u32 273678451)]]
def laid_augury_decode_names {H : Type} : DataW H := .agg [.lit (.string []), .lit (.string [108, 117, 105]), .lit (.string [97, 117, 105, 112, 99]), .lit (.string [106, 97, 108]), .lit (.string [106, 97, 108, 114]), .lit (.string [108, 98]), .lit (.string [108, 104]), .lit (.string [108, 119]), .lit (.string [108, 98, 117]), .lit (.string [108, 104, 117]), .lit (.string [97, 100, 100, 105]), .lit (.string [115, 108, 116, 105]), .lit (.string [115, 108, 116, 105, 117]), .lit (.string [120, 111, 114, 105]), .lit (.string [111, 114, 105]), .lit (.string [97, 110, 100, 105]), .lit (.string [115, 108, 108, 105]), .lit (.string [115, 114, 108, 105]), .lit (.string [115, 114, 97, 105]), .lit (.string [115, 98]), .lit (.string [115, 104]), .lit (.string [115, 119]), .lit (.string [98, 101, 113]), .lit (.string [98, 110, 101]), .lit (.string [98, 108, 116]), .lit (.string [98, 103, 101]), .lit (.string [98, 108, 116, 117]), .lit (.string [98, 103, 101, 117]), .lit (.string [97, 100, 100]), .lit (.string [115, 117, 98]), .lit (.string [115, 108, 108]), .lit (.string [115, 108, 116]), .lit (.string [115, 108, 116, 117]), .lit (.string [120, 111, 114]), .lit (.string [115, 114, 108]), .lit (.string [115, 114, 97]), .lit (.string [111, 114]), .lit (.string [97, 110, 100]), .lit (.string [109, 117, 108]), .lit (.string [109, 117, 108, 104]), .lit (.string [109, 117, 108, 104, 115, 117]), .lit (.string [109, 117, 108, 104, 117]), .lit (.string [100, 105, 118]), .lit (.string [100, 105, 118, 117]), .lit (.string [114, 101, 109]), .lit (.string [114, 101, 109, 117]), .lit (.string [108, 114, 46, 119]), .lit (.string [115, 99, 46, 119]), .lit (.string [97, 109, 111, 115, 119, 97, 112, 46, 119]), .lit (.string [97, 109, 111, 97, 100, 100, 46, 119]), .lit (.string [97, 109, 111, 120, 111, 114, 46, 119]), .lit (.string [97, 109, 111, 97, 110, 100, 46, 119]), .lit (.string [97, 109, 111, 111, 114, 46, 119]), .lit (.string [97, 109, 111, 109, 105, 110, 46, 119]), .lit (.string [97, 109, 111, 109, 97, 120, 46, 119]), .lit (.string [97, 109, 111, 109, 105, 110, 117, 46, 119]), .lit (.string [97, 109, 111, 109, 97, 120, 117, 46, 119]), .lit (.string [99, 115, 114, 114, 119]), .lit (.string [99, 115, 114, 114, 115]), .lit (.string [99, 115, 114, 114, 99]), .lit (.string [99, 115, 114, 114, 119, 105]), .lit (.string [99, 115, 114, 114, 115, 105]), .lit (.string [99, 115, 114, 114, 99, 105]), .lit (.string [102, 101, 110, 99, 101]), .lit (.string [102, 101, 110, 99, 101, 46, 105]), .lit (.string [101, 99, 97, 108, 108]), .lit (.string [101, 98, 114, 101, 97, 107]), .lit (.string [109, 114, 101, 116]), .lit (.string [119, 102, 105])]
def laid_augury_decode_forms {H : Type} : DataW H := .agg [.agg [.lit (.int .u32 127), .lit (.int .u8 1), .lit (.int .u8 0), .agg [.agg [.lit (.int .u8 12), .lit (.int .u8 12), .lit (.int .u8 20)], .agg [.lit (.int .u8 0), .lit (.int .u8 0), .lit (.int .u8 0)], .agg [.lit (.int .u8 0), .lit (.int .u8 0), .lit (.int .u8 0)], .agg [.lit (.int .u8 0), .lit (.int .u8 0), .lit (.int .u8 0)]]], .agg [.lit (.int .u32 127), .lit (.int .u8 1), .lit (.int .u8 11), .agg [.agg [.lit (.int .u8 31), .lit (.int .u8 20), .lit (.int .u8 1)], .agg [.lit (.int .u8 21), .lit (.int .u8 1), .lit (.int .u8 10)], .agg [.lit (.int .u8 20), .lit (.int .u8 11), .lit (.int .u8 1)], .agg [.lit (.int .u8 12), .lit (.int .u8 12), .lit (.int .u8 8)]]], .agg [.lit (.int .u32 28799), .lit (.int .u8 3), .lit (.int .u8 20), .agg [.agg [.lit (.int .u8 20), .lit (.int .u8 0), .lit (.int .u8 12)], .agg [.lit (.int .u8 0), .lit (.int .u8 0), .lit (.int .u8 0)], .agg [.lit (.int .u8 0), .lit (.int .u8 0), .lit (.int .u8 0)], .agg [.lit (.int .u8 0), .lit (.int .u8 0), .lit (.int .u8 0)]]], .agg [.lit (.int .u32 4261441663), .lit (.int .u8 3), .lit (.int .u8 0), .agg [.agg [.lit (.int .u8 20), .lit (.int .u8 0), .lit (.int .u8 5)], .agg [.lit (.int .u8 0), .lit (.int .u8 0), .lit (.int .u8 0)], .agg [.lit (.int .u8 0), .lit (.int .u8 0), .lit (.int .u8 0)], .agg [.lit (.int .u8 0), .lit (.int .u8 0), .lit (.int .u8 0)]]], .agg [.lit (.int .u32 28799), .lit (.int .u8 6), .lit (.int .u8 20), .agg [.agg [.lit (.int .u8 25), .lit (.int .u8 5), .lit (.int .u8 7)], .agg [.lit (.int .u8 7), .lit (.int .u8 0), .lit (.int .u8 5)], .agg [.lit (.int .u8 0), .lit (.int .u8 0), .lit (.int .u8 0)], .agg [.lit (.int .u8 0), .lit (.int .u8 0), .lit (.int .u8 0)]]], .agg [.lit (.int .u32 28799), .lit (.int .u8 6), .lit (.int .u8 19), .agg [.agg [.lit (.int .u8 31), .lit (.int .u8 12), .lit (.int .u8 1)], .agg [.lit (.int .u8 25), .lit (.int .u8 5), .lit (.int .u8 6)], .agg [.lit (.int .u8 8), .lit (.int .u8 1), .lit (.int .u8 4)], .agg [.lit (.int .u8 7), .lit (.int .u8 11), .lit (.int .u8 1)]]], .agg [.lit (.int .u32 4261441663), .lit (.int .u8 7), .lit (.int .u8 0), .agg [.agg [.lit (.int .u8 0), .lit (.int .u8 0), .lit (.int .u8 0)], .agg [.lit (.int .u8 0), .lit (.int .u8 0), .lit (.int .u8 0)], .agg [.lit (.int .u8 0), .lit (.int .u8 0), .lit (.int .u8 0)], .agg [.lit (.int .u8 0), .lit (.int .u8 0), .lit (.int .u8 0)]]], .agg [.lit (.int .u32 4193284223), .lit (.int .u8 3), .lit (.int .u8 0), .agg [.agg [.lit (.int .u8 0), .lit (.int .u8 0), .lit (.int .u8 0)], .agg [.lit (.int .u8 0), .lit (.int .u8 0), .lit (.int .u8 0)], .agg [.lit (.int .u8 0), .lit (.int .u8 0), .lit (.int .u8 0)], .agg [.lit (.int .u8 0), .lit (.int .u8 0), .lit (.int .u8 0)]]], .agg [.lit (.int .u32 4160778367), .lit (.int .u8 7), .lit (.int .u8 0), .agg [.agg [.lit (.int .u8 0), .lit (.int .u8 0), .lit (.int .u8 0)], .agg [.lit (.int .u8 0), .lit (.int .u8 0), .lit (.int .u8 0)], .agg [.lit (.int .u8 0), .lit (.int .u8 0), .lit (.int .u8 0)], .agg [.lit (.int .u8 0), .lit (.int .u8 0), .lit (.int .u8 0)]]], .agg [.lit (.int .u32 28799), .lit (.int .u8 11), .lit (.int .u8 0), .agg [.agg [.lit (.int .u8 0), .lit (.int .u8 0), .lit (.int .u8 0)], .agg [.lit (.int .u8 0), .lit (.int .u8 0), .lit (.int .u8 0)], .agg [.lit (.int .u8 0), .lit (.int .u8 0), .lit (.int .u8 0)], .agg [.lit (.int .u8 0), .lit (.int .u8 0), .lit (.int .u8 0)]]], .agg [.lit (.int .u32 28799), .lit (.int .u8 9), .lit (.int .u8 0), .agg [.agg [.lit (.int .u8 15), .lit (.int .u8 0), .lit (.int .u8 5)], .agg [.lit (.int .u8 0), .lit (.int .u8 0), .lit (.int .u8 0)], .agg [.lit (.int .u8 0), .lit (.int .u8 0), .lit (.int .u8 0)], .agg [.lit (.int .u8 0), .lit (.int .u8 0), .lit (.int .u8 0)]]], .agg [.lit (.int .u32 28799), .lit (.int .u8 0), .lit (.int .u8 0), .agg [.agg [.lit (.int .u8 0), .lit (.int .u8 0), .lit (.int .u8 0)], .agg [.lit (.int .u8 0), .lit (.int .u8 0), .lit (.int .u8 0)], .agg [.lit (.int .u8 0), .lit (.int .u8 0), .lit (.int .u8 0)], .agg [.lit (.int .u8 0), .lit (.int .u8 0), .lit (.int .u8 0)]]], .agg [.lit (.int .u32 4294967295), .lit (.int .u8 0), .lit (.int .u8 0), .agg [.agg [.lit (.int .u8 0), .lit (.int .u8 0), .lit (.int .u8 0)], .agg [.lit (.int .u8 0), .lit (.int .u8 0), .lit (.int .u8 0)], .agg [.lit (.int .u8 0), .lit (.int .u8 0), .lit (.int .u8 0)], .agg [.lit (.int .u8 0), .lit (.int .u8 0), .lit (.int .u8 0)]]]]

/-- 'augurylaw16.DecodeGets': WHATEVER THE INPUT: true; the input reads as it did. -/
def decodeGetsSpec : ChangeSpec := { name := "decodeGets", fn := fun _ => fun
  | [d] => { results := [.lit (.bool true)], args := [d] }
  | _ => none }
def decodeGetsRow : OpenClaim := { program := "ytbgcgomefdblpaadoor", sum := "476daca20ab74ffa2e869f3fbd78d5d6e9627a6d3a57d03ce73901ba3b454f37", func := "augury/augurylaw16.DecodeGets", spec := "decodeGets", named := ["augury/decode.rows", "augury/decode.forms", "augury/decode.names"], apart := false, laid := [("augury/decode.rows", laid_augury_decode_rows), ("augury/decode.names", laid_augury_decode_names), ("augury/decode.forms", laid_augury_decode_forms)] }
def DecodeGetsSaid : Prop := decodeGetsRow.holds Tryd.pinned (OpenSpec.ofChange decodeGetsSpec)

/-- ITS FALSE NEIGHBOUR: 'it returns false'. Refute it at one input. -/
def decodeGetsWrong : ChangeSpec := { name := "decodeGets", fn := fun _ => fun
  | [d] => { results := [.lit (.bool false)], args := [d] }
  | _ => none }
def DecodeGetsWrongFalsely : Prop := decodeGetsRow.holds Tryd.pinned (OpenSpec.ofChange decodeGetsWrong)

/-- 'augurylaw16.DecodePuts': WHATEVER THE INPUT: true; the input reads as it did. -/
def decodePutsSpec : ChangeSpec := { name := "decodePuts", fn := fun _ => fun
  | [d] => { results := [.lit (.bool true)], args := [d] }
  | _ => none }
def decodePutsRow : OpenClaim := { program := "ytbgcgomefdblpaadoor", sum := "476daca20ab74ffa2e869f3fbd78d5d6e9627a6d3a57d03ce73901ba3b454f37", func := "augury/augurylaw16.DecodePuts", spec := "decodePuts", named := ["augury/decode.rows", "augury/decode.forms", "augury/decode.names"], apart := false, laid := [("augury/decode.rows", laid_augury_decode_rows), ("augury/decode.names", laid_augury_decode_names), ("augury/decode.forms", laid_augury_decode_forms)] }
def DecodePutsSaid : Prop := decodePutsRow.holds Tryd.pinned (OpenSpec.ofChange decodePutsSpec)

/-- ITS FALSE NEIGHBOUR: 'it returns false'. Refute it at one input. -/
def decodePutsWrong : ChangeSpec := { name := "decodePuts", fn := fun _ => fun
  | [d] => { results := [.lit (.bool false)], args := [d] }
  | _ => none }
def DecodePutsWrongFalsely : Prop := decodePutsRow.holds Tryd.pinned (OpenSpec.ofChange decodePutsWrong)

/-- 'augurylaw16.DecodeBack': WHATEVER THE INPUT: true; the input reads as it did. -/
def decodeBackSpec : ChangeSpec := { name := "decodeBack", fn := fun _ => fun
  | [d] => { results := [.lit (.bool true)], args := [d] }
  | _ => none }
def decodeBackRow : OpenClaim := { program := "ytbgcgomefdblpaadoor", sum := "476daca20ab74ffa2e869f3fbd78d5d6e9627a6d3a57d03ce73901ba3b454f37", func := "augury/augurylaw16.DecodeBack", spec := "decodeBack", named := ["augury/decode.rows", "augury/decode.forms", "augury/decode.names"], apart := false, laid := [("augury/decode.rows", laid_augury_decode_rows), ("augury/decode.names", laid_augury_decode_names), ("augury/decode.forms", laid_augury_decode_forms)] }
def DecodeBackSaid : Prop := decodeBackRow.holds Tryd.pinned (OpenSpec.ofChange decodeBackSpec)

/-- ITS FALSE NEIGHBOUR: 'it returns false'. Refute it at one input. -/
def decodeBackWrong : ChangeSpec := { name := "decodeBack", fn := fun _ => fun
  | [d] => { results := [.lit (.bool false)], args := [d] }
  | _ => none }
def DecodeBackWrongFalsely : Prop := decodeBackRow.holds Tryd.pinned (OpenSpec.ofChange decodeBackWrong)

/-- 'augurylaw16.DecodeLeast': WHATEVER THE INPUT: true; the input reads as it did. -/
def decodeLeastSpec : ChangeSpec := { name := "decodeLeast", fn := fun _ => fun
  | [d] => { results := [.lit (.bool true)], args := [d] }
  | _ => none }
def decodeLeastRow : OpenClaim := { program := "ytbgcgomefdblpaadoor", sum := "476daca20ab74ffa2e869f3fbd78d5d6e9627a6d3a57d03ce73901ba3b454f37", func := "augury/augurylaw16.DecodeLeast", spec := "decodeLeast", named := ["augury/decode.rows", "augury/decode.forms", "augury/decode.names"], apart := false, laid := [("augury/decode.rows", laid_augury_decode_rows), ("augury/decode.names", laid_augury_decode_names), ("augury/decode.forms", laid_augury_decode_forms)] }
def DecodeLeastSaid : Prop := decodeLeastRow.holds Tryd.pinned (OpenSpec.ofChange decodeLeastSpec)

/-- ITS FALSE NEIGHBOUR: 'it returns false'. Refute it at one input. -/
def decodeLeastWrong : ChangeSpec := { name := "decodeLeast", fn := fun _ => fun
  | [d] => { results := [.lit (.bool false)], args := [d] }
  | _ => none }
def DecodeLeastWrongFalsely : Prop := decodeLeastRow.holds Tryd.pinned (OpenSpec.ofChange decodeLeastWrong)

/- THE SECOND FORM. 'bulk': how many values and letters a reading holds, each counted each time it is reached (what is shared counts as often as it is met; a slice's spare places count too). A statement '..UptoSaid' is the law's where the arguments, and the package variables that the reading takes, are together of bulk at most 1048576: NARROWER than '..Said'. Prove '..Said' where nothing that the law and all that it calls make is longer than what came in: it says more and counts as full. Else prove '..UptoSaid'. A law counts once. -/
mutual
def uptoBulk {H : Type} : DataW H → Nat
  | .lit (.string bytes) => bytes.length + 1
  | .lit _ => 1
  | .nil => 1
  | .ptr d => uptoBulk d + 1
  | .slice elems spare => uptoBulkAll elems + uptoBulkAll spare + 1
  | .agg parts => uptoBulkAll parts + 1
  | .iface _ d => uptoBulk d + 1
  | .map entries => uptoBulkEntries entries + 1
  | .held _ => 1
def uptoBulkAll {H : Type} : List (DataW H) → Nat
  | [] => 0
  | d :: r => uptoBulk d + uptoBulkAll r
def uptoBulkEntries {H : Type} : List (Lit × DataW H) → Nat
  | [] => 0
  | x :: r => uptoBulkEntry x + uptoBulkEntries r
def uptoBulkEntry {H : Type} : Lit × DataW H → Nat
  | (.string bytes, d) => bytes.length + uptoBulk d + 1
  | (_, d) => uptoBulk d + 1
 end
def uptoSmall : (H : Type) → List (DataW H) → Bool := fun _ ds => decide (uptoBulkAll ds ≤ 1048576)
def OpenSpec.upto (s : _root_.Go.ChangeSpec) : _root_.Go.OpenSpec := { _root_.Go.OpenSpec.ofChange s with cond := some uptoSmall }

/-- 'augurylaw16.DecodeGets', WHERE WHAT IT READS IS OF BULK AT MOST 1048576: true; the input reads as it did. -/
def decodeGetsUptoRow : OpenClaim := { program := "ytbgcgomefdblpaadoor", sum := "476daca20ab74ffa2e869f3fbd78d5d6e9627a6d3a57d03ce73901ba3b454f37", func := "augury/augurylaw16.DecodeGets", spec := "decodeGets", named := ["augury/decode.rows", "augury/decode.forms", "augury/decode.names"], apart := false, laid := [("augury/decode.rows", laid_augury_decode_rows), ("augury/decode.names", laid_augury_decode_names), ("augury/decode.forms", laid_augury_decode_forms)], narrowed := true }
def DecodeGetsUptoSaid : Prop := decodeGetsUptoRow.holds Tryd.pinned (OpenSpec.upto decodeGetsSpec)

/-- 'augurylaw16.DecodePuts', WHERE WHAT IT READS IS OF BULK AT MOST 1048576: true; the input reads as it did. -/
def decodePutsUptoRow : OpenClaim := { program := "ytbgcgomefdblpaadoor", sum := "476daca20ab74ffa2e869f3fbd78d5d6e9627a6d3a57d03ce73901ba3b454f37", func := "augury/augurylaw16.DecodePuts", spec := "decodePuts", named := ["augury/decode.rows", "augury/decode.forms", "augury/decode.names"], apart := false, laid := [("augury/decode.rows", laid_augury_decode_rows), ("augury/decode.names", laid_augury_decode_names), ("augury/decode.forms", laid_augury_decode_forms)], narrowed := true }
def DecodePutsUptoSaid : Prop := decodePutsUptoRow.holds Tryd.pinned (OpenSpec.upto decodePutsSpec)

/-- 'augurylaw16.DecodeBack', WHERE WHAT IT READS IS OF BULK AT MOST 1048576: true; the input reads as it did. -/
def decodeBackUptoRow : OpenClaim := { program := "ytbgcgomefdblpaadoor", sum := "476daca20ab74ffa2e869f3fbd78d5d6e9627a6d3a57d03ce73901ba3b454f37", func := "augury/augurylaw16.DecodeBack", spec := "decodeBack", named := ["augury/decode.rows", "augury/decode.forms", "augury/decode.names"], apart := false, laid := [("augury/decode.rows", laid_augury_decode_rows), ("augury/decode.names", laid_augury_decode_names), ("augury/decode.forms", laid_augury_decode_forms)], narrowed := true }
def DecodeBackUptoSaid : Prop := decodeBackUptoRow.holds Tryd.pinned (OpenSpec.upto decodeBackSpec)

/-- 'augurylaw16.DecodeLeast', WHERE WHAT IT READS IS OF BULK AT MOST 1048576: true; the input reads as it did. -/
def decodeLeastUptoRow : OpenClaim := { program := "ytbgcgomefdblpaadoor", sum := "476daca20ab74ffa2e869f3fbd78d5d6e9627a6d3a57d03ce73901ba3b454f37", func := "augury/augurylaw16.DecodeLeast", spec := "decodeLeast", named := ["augury/decode.rows", "augury/decode.forms", "augury/decode.names"], apart := false, laid := [("augury/decode.rows", laid_augury_decode_rows), ("augury/decode.names", laid_augury_decode_names), ("augury/decode.forms", laid_augury_decode_forms)], narrowed := true }
def DecodeLeastUptoSaid : Prop := decodeLeastUptoRow.holds Tryd.pinned (OpenSpec.upto decodeLeastSpec)

end Rows
end Go.Proofs.YtbgcgomefdblpaaDoor
