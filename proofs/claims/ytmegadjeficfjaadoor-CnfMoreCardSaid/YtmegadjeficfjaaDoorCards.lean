/-
  DERIVED. GIVEN WITH THE SEED: THE CARDS: each row of YtmegadjeficfjaaDoorRows.lean that lists a variable, with what it lists TIED to the program's text (the seventh form; the later family's looks); each row that meets fmt, with fmt's text TOLD by the authors' own Lean function (tested against real Go, not proved from fmt's source: count such statements apart). THE CARD IS WHAT COUNTS. Prove the row's statement (the work); the ties are given (YtmegadjeficfjaaDoorTie.lean); close each card by the builder's one call (the guide's Derived/Test/ToyasCard.lean, 'card_holds'). Laid BY PROGRAM, IN A SANDBOX (cutbox-door.mjs). By AI agents, Wed Nov 11 2026. No macro, syntax, notation, axiom, sorry.
-/
import Derived.Test.YtmegadjeficfjaaDoorRows
import GoSem.ClaimSeven
namespace Go.Proofs.YtmegadjeficfjaaDoor
namespace Rows

/-- THE TIED CARD OF 'augurylaw08.CnfPuts'. -/
def cnfPutsCard : Claim7 := { stood := { row := cnfPutsRow, standIns := [], harness := (true, "ba6d04a0e3d3810dd606843eca0c26299b6a652a0be3a6b8b3e68dfd9006611a"), looks := true }, kinds := [], alts := [], laidByText := true, laidKinds := [.data, .data, .data, .data, .sentinel, .sentinel, .pinned], laidTests := true, laidLooks := .later }
def CnfPutsCardSaid : Prop := Claim7.holds Tryd.pinned (.plain (OpenSpec.ofChange cnfPutsSpec)) cnfPutsCard

/-- THE TIED CARD OF 'augurylaw08.CnfGets'. -/
def cnfGetsCard : Claim7 := { stood := { row := cnfGetsRow, standIns := [], harness := (true, "ba6d04a0e3d3810dd606843eca0c26299b6a652a0be3a6b8b3e68dfd9006611a"), looks := true }, kinds := [], alts := [], laidByText := true, laidKinds := [.data, .data, .data, .data, .sentinel, .sentinel, .pinned], laidTests := true, laidLooks := .later }
def CnfGetsCardSaid : Prop := Claim7.holds Tryd.pinned (.plain (OpenSpec.ofChange cnfGetsSpec)) cnfGetsCard

/-- THE TIED CARD OF 'augurylaw08.CnfUnits'. -/
def cnfUnitsCard : Claim7 := { stood := { row := cnfUnitsRow, standIns := [], harness := (true, "ba6d04a0e3d3810dd606843eca0c26299b6a652a0be3a6b8b3e68dfd9006611a"), looks := true }, kinds := [], alts := [], laidByText := true, laidKinds := [.data, .data, .data, .data, .sentinel, .sentinel, .pinned], laidTests := true, laidLooks := .later }
def CnfUnitsCardSaid : Prop := Claim7.holds Tryd.pinned (.plain (OpenSpec.ofChange cnfUnitsSpec)) cnfUnitsCard

/-- THE TIED CARD OF 'augurylaw08.CnfBack'. -/
def cnfBackCard : Claim7 := { stood := { row := cnfBackRow, standIns := [], harness := (true, "ba6d04a0e3d3810dd606843eca0c26299b6a652a0be3a6b8b3e68dfd9006611a"), looks := true }, kinds := [], alts := [], laidByText := true, laidKinds := [.data, .data, .data, .data, .sentinel, .sentinel, .pinned], laidTests := true, laidLooks := .later }
def CnfBackCardSaid : Prop := Claim7.holds Tryd.pinned (.plain (OpenSpec.ofChange cnfBackSpec)) cnfBackCard

/-- THE TIED CARD OF 'augurylaw08.CnfMore'. -/
def cnfMoreCard : Claim7 := { stood := { row := cnfMoreRow, standIns := [], harness := (true, "ba6d04a0e3d3810dd606843eca0c26299b6a652a0be3a6b8b3e68dfd9006611a"), looks := true }, kinds := [], alts := [], laidByText := true, laidKinds := [.data, .data, .data, .data, .sentinel, .sentinel, .pinned], laidTests := true, laidLooks := .later }
def CnfMoreCardSaid : Prop := Claim7.holds Tryd.pinned (.plain (OpenSpec.ofChange cnfMoreSpec)) cnfMoreCard

/-- THE SECOND FORM's CARD OF 'augurylaw08.CnfPuts'. -/
def cnfPutsUptoCard : Claim7 := { stood := { row := cnfPutsUptoRow, standIns := [], harness := (true, "ba6d04a0e3d3810dd606843eca0c26299b6a652a0be3a6b8b3e68dfd9006611a"), looks := true }, kinds := [], alts := [], laidByText := true, laidKinds := [.data, .data, .data, .data, .sentinel, .sentinel, .pinned], laidTests := true, laidLooks := .later }
def CnfPutsUptoCardSaid : Prop := Claim7.holds Tryd.pinned (.plain (OpenSpec.upto cnfPutsSpec)) cnfPutsUptoCard

/-- THE SECOND FORM's CARD OF 'augurylaw08.CnfGets'. -/
def cnfGetsUptoCard : Claim7 := { stood := { row := cnfGetsUptoRow, standIns := [], harness := (true, "ba6d04a0e3d3810dd606843eca0c26299b6a652a0be3a6b8b3e68dfd9006611a"), looks := true }, kinds := [], alts := [], laidByText := true, laidKinds := [.data, .data, .data, .data, .sentinel, .sentinel, .pinned], laidTests := true, laidLooks := .later }
def CnfGetsUptoCardSaid : Prop := Claim7.holds Tryd.pinned (.plain (OpenSpec.upto cnfGetsSpec)) cnfGetsUptoCard

/-- THE SECOND FORM's CARD OF 'augurylaw08.CnfUnits'. -/
def cnfUnitsUptoCard : Claim7 := { stood := { row := cnfUnitsUptoRow, standIns := [], harness := (true, "ba6d04a0e3d3810dd606843eca0c26299b6a652a0be3a6b8b3e68dfd9006611a"), looks := true }, kinds := [], alts := [], laidByText := true, laidKinds := [.data, .data, .data, .data, .sentinel, .sentinel, .pinned], laidTests := true, laidLooks := .later }
def CnfUnitsUptoCardSaid : Prop := Claim7.holds Tryd.pinned (.plain (OpenSpec.upto cnfUnitsSpec)) cnfUnitsUptoCard

/-- THE SECOND FORM's CARD OF 'augurylaw08.CnfBack'. -/
def cnfBackUptoCard : Claim7 := { stood := { row := cnfBackUptoRow, standIns := [], harness := (true, "ba6d04a0e3d3810dd606843eca0c26299b6a652a0be3a6b8b3e68dfd9006611a"), looks := true }, kinds := [], alts := [], laidByText := true, laidKinds := [.data, .data, .data, .data, .sentinel, .sentinel, .pinned], laidTests := true, laidLooks := .later }
def CnfBackUptoCardSaid : Prop := Claim7.holds Tryd.pinned (.plain (OpenSpec.upto cnfBackSpec)) cnfBackUptoCard

/-- THE SECOND FORM's CARD OF 'augurylaw08.CnfMore'. -/
def cnfMoreUptoCard : Claim7 := { stood := { row := cnfMoreUptoRow, standIns := [], harness := (true, "ba6d04a0e3d3810dd606843eca0c26299b6a652a0be3a6b8b3e68dfd9006611a"), looks := true }, kinds := [], alts := [], laidByText := true, laidKinds := [.data, .data, .data, .data, .sentinel, .sentinel, .pinned], laidTests := true, laidLooks := .later }
def CnfMoreUptoCardSaid : Prop := Claim7.holds Tryd.pinned (.plain (OpenSpec.upto cnfMoreSpec)) cnfMoreUptoCard
end Rows
end Go.Proofs.YtmegadjeficfjaaDoor
