/-
  DERIVED. GIVEN WITH THE SEED: THE CARDS: each row of YtcpehdeddgfpmaaDoorRows.lean that lists a variable, with what it lists TIED to the program's text (the seventh form; the later family's looks); each row that meets fmt, with fmt's text TOLD by the authors' own Lean function (tested against real Go, not proved from fmt's source: count such statements apart). THE CARD IS WHAT COUNTS. Prove the row's statement (the work); the ties are given (YtcpehdeddgfpmaaDoorTie.lean); close each card by the builder's one call (the guide's Derived/Test/ToyasCard.lean, 'card_holds'). Laid BY PROGRAM, IN A SANDBOX (cutbox-door.mjs). By AI agents, Wed Nov 11 2026. No macro, syntax, notation, axiom, sorry.
-/
import Derived.Test.YtcpehdeddgfpmaaDoorRows
import GoSem.ClaimSeven
namespace Go.Proofs.YtcpehdeddgfpmaaDoor
namespace Rows

/-- THE TIED CARD OF 'augurylaw08.CnfGets'. -/
def cnfGetsCard : Claim7 := { stood := { row := cnfGetsRow, standIns := [], harness := (true, "bb2f52f317c9e7fd8b4d3b80859ad29af02caf6495bbaf877b19b237d799f017"), looks := true }, kinds := [], alts := [], laidByText := true, laidKinds := [.data, .data, .data, .data, .sentinel, .sentinel, .pinned], laidTests := true, laidLooks := .later }
def CnfGetsCardSaid : Prop := Claim7.holds Tryd.pinned (.plain (OpenSpec.ofChange cnfGetsSpec)) cnfGetsCard

/-- THE TIED CARD OF 'augurylaw08.CnfBack'. -/
def cnfBackCard : Claim7 := { stood := { row := cnfBackRow, standIns := [], harness := (true, "bb2f52f317c9e7fd8b4d3b80859ad29af02caf6495bbaf877b19b237d799f017"), looks := true }, kinds := [], alts := [], laidByText := true, laidKinds := [.data, .data, .data, .data, .sentinel, .sentinel, .pinned], laidTests := true, laidLooks := .later }
def CnfBackCardSaid : Prop := Claim7.holds Tryd.pinned (.plain (OpenSpec.ofChange cnfBackSpec)) cnfBackCard

/-- THE SECOND FORM's CARD OF 'augurylaw08.CnfGets'. -/
def cnfGetsUptoCard : Claim7 := { stood := { row := cnfGetsUptoRow, standIns := [], harness := (true, "bb2f52f317c9e7fd8b4d3b80859ad29af02caf6495bbaf877b19b237d799f017"), looks := true }, kinds := [], alts := [], laidByText := true, laidKinds := [.data, .data, .data, .data, .sentinel, .sentinel, .pinned], laidTests := true, laidLooks := .later }
def CnfGetsUptoCardSaid : Prop := Claim7.holds Tryd.pinned (.plain (OpenSpec.upto cnfGetsSpec)) cnfGetsUptoCard

/-- THE SECOND FORM's CARD OF 'augurylaw08.CnfBack'. -/
def cnfBackUptoCard : Claim7 := { stood := { row := cnfBackUptoRow, standIns := [], harness := (true, "bb2f52f317c9e7fd8b4d3b80859ad29af02caf6495bbaf877b19b237d799f017"), looks := true }, kinds := [], alts := [], laidByText := true, laidKinds := [.data, .data, .data, .data, .sentinel, .sentinel, .pinned], laidTests := true, laidLooks := .later }
def CnfBackUptoCardSaid : Prop := Claim7.holds Tryd.pinned (.plain (OpenSpec.upto cnfBackSpec)) cnfBackUptoCard
end Rows
end Go.Proofs.YtcpehdeddgfpmaaDoor
