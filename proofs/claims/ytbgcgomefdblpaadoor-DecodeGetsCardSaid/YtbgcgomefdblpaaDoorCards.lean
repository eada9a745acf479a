/-
  DERIVED. GIVEN WITH THE SEED: THE CARDS: each row of YtbgcgomefdblpaaDoorRows.lean that lists a variable, with what it lists TIED to the program's text (the seventh form; the later family's looks); each row that meets fmt, with fmt's text TOLD by the authors' own Lean function (tested against real Go, not proved from fmt's source: count such statements apart). THE CARD IS WHAT COUNTS. Prove the row's statement (the work); the ties are given (YtbgcgomefdblpaaDoorTie.lean); close each card by the builder's one call (the guide's Derived/Test/ToyasCard.lean, 'card_holds'). Laid BY PROGRAM, IN A SANDBOX (cutbox-door.mjs). By AI agents, Wed Nov 11 2026. No macro, syntax, notation, axiom, sorry.
-/
import Derived.Test.YtbgcgomefdblpaaDoorRows
import GoSem.ClaimSeven
namespace Go.Proofs.YtbgcgomefdblpaaDoor
namespace Rows

/-- THE TIED CARD OF 'augurylaw16.DecodeGets'. -/
def decodeGetsCard : Claim7 := { stood := { row := decodeGetsRow, standIns := [], harness := (true, "97e2c25253c1fadada99c5ddaa00a0448e736a814a5b4880d2feeaaf27c87fee"), looks := false }, kinds := [], alts := [], laidByText := true, laidKinds := [.data, .data, .wider], laidTests := true, laidLooks := .later }
def DecodeGetsCardSaid : Prop := Claim7.holds Tryd.pinned (.plain (OpenSpec.ofChange decodeGetsSpec)) decodeGetsCard

/-- THE TIED CARD OF 'augurylaw16.DecodePuts'. -/
def decodePutsCard : Claim7 := { stood := { row := decodePutsRow, standIns := [], harness := (true, "97e2c25253c1fadada99c5ddaa00a0448e736a814a5b4880d2feeaaf27c87fee"), looks := false }, kinds := [], alts := [], laidByText := true, laidKinds := [.data, .data, .wider], laidTests := true, laidLooks := .later }
def DecodePutsCardSaid : Prop := Claim7.holds Tryd.pinned (.plain (OpenSpec.ofChange decodePutsSpec)) decodePutsCard

/-- THE TIED CARD OF 'augurylaw16.DecodeBack'. -/
def decodeBackCard : Claim7 := { stood := { row := decodeBackRow, standIns := [], harness := (true, "97e2c25253c1fadada99c5ddaa00a0448e736a814a5b4880d2feeaaf27c87fee"), looks := false }, kinds := [], alts := [], laidByText := true, laidKinds := [.data, .data, .wider], laidTests := true, laidLooks := .later }
def DecodeBackCardSaid : Prop := Claim7.holds Tryd.pinned (.plain (OpenSpec.ofChange decodeBackSpec)) decodeBackCard

/-- THE TIED CARD OF 'augurylaw16.DecodeLeast'. -/
def decodeLeastCard : Claim7 := { stood := { row := decodeLeastRow, standIns := [], harness := (true, "97e2c25253c1fadada99c5ddaa00a0448e736a814a5b4880d2feeaaf27c87fee"), looks := false }, kinds := [], alts := [], laidByText := true, laidKinds := [.data, .data, .wider], laidTests := true, laidLooks := .later }
def DecodeLeastCardSaid : Prop := Claim7.holds Tryd.pinned (.plain (OpenSpec.ofChange decodeLeastSpec)) decodeLeastCard

/-- THE SECOND FORM's CARD OF 'augurylaw16.DecodeGets'. -/
def decodeGetsUptoCard : Claim7 := { stood := { row := decodeGetsUptoRow, standIns := [], harness := (true, "97e2c25253c1fadada99c5ddaa00a0448e736a814a5b4880d2feeaaf27c87fee"), looks := false }, kinds := [], alts := [], laidByText := true, laidKinds := [.data, .data, .wider], laidTests := true, laidLooks := .later }
def DecodeGetsUptoCardSaid : Prop := Claim7.holds Tryd.pinned (.plain (OpenSpec.upto decodeGetsSpec)) decodeGetsUptoCard

/-- THE SECOND FORM's CARD OF 'augurylaw16.DecodePuts'. -/
def decodePutsUptoCard : Claim7 := { stood := { row := decodePutsUptoRow, standIns := [], harness := (true, "97e2c25253c1fadada99c5ddaa00a0448e736a814a5b4880d2feeaaf27c87fee"), looks := false }, kinds := [], alts := [], laidByText := true, laidKinds := [.data, .data, .wider], laidTests := true, laidLooks := .later }
def DecodePutsUptoCardSaid : Prop := Claim7.holds Tryd.pinned (.plain (OpenSpec.upto decodePutsSpec)) decodePutsUptoCard

/-- THE SECOND FORM's CARD OF 'augurylaw16.DecodeBack'. -/
def decodeBackUptoCard : Claim7 := { stood := { row := decodeBackUptoRow, standIns := [], harness := (true, "97e2c25253c1fadada99c5ddaa00a0448e736a814a5b4880d2feeaaf27c87fee"), looks := false }, kinds := [], alts := [], laidByText := true, laidKinds := [.data, .data, .wider], laidTests := true, laidLooks := .later }
def DecodeBackUptoCardSaid : Prop := Claim7.holds Tryd.pinned (.plain (OpenSpec.upto decodeBackSpec)) decodeBackUptoCard

/-- THE SECOND FORM's CARD OF 'augurylaw16.DecodeLeast'. -/
def decodeLeastUptoCard : Claim7 := { stood := { row := decodeLeastUptoRow, standIns := [], harness := (true, "97e2c25253c1fadada99c5ddaa00a0448e736a814a5b4880d2feeaaf27c87fee"), looks := false }, kinds := [], alts := [], laidByText := true, laidKinds := [.data, .data, .wider], laidTests := true, laidLooks := .later }
def DecodeLeastUptoCardSaid : Prop := Claim7.holds Tryd.pinned (.plain (OpenSpec.upto decodeLeastSpec)) decodeLeastUptoCard
end Rows
end Go.Proofs.YtbgcgomefdblpaaDoor
