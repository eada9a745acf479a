/-
  DERIVED. GIVEN WITH THE SEED: THE CARDS: each row of YtmegadjeficfjaaGreatDoorRows.lean that lists a variable, with what it lists TIED to the program's text (the seventh form; the later family's looks); each row that meets fmt, with fmt's text TOLD by the authors' own Lean function (tested against real Go, not proved from fmt's source: count such statements apart). THE CARD IS WHAT COUNTS. Prove the row's statement (the work); the ties are given (YtmegadjeficfjaaGreatDoorTie.lean); close each card by the builder's one call (the guide's Derived/Test/ToyasCard.lean, 'card_holds'). Laid BY PROGRAM, IN A SANDBOX (cutbox-door.mjs). By AI agents, Wed Nov 11 2026. No macro, syntax, notation, axiom, sorry.
-/
import Derived.Test.YtmegadjeficfjaaGreatDoorRows
import GoSem.ClaimSeven
namespace Go.Proofs.YtmegadjeficfjaaGreatDoor
namespace Rows

/-- THE TIED CARD OF 'augurylaw08.CnfSound'. -/
def cnfSoundCard : Claim7 := { stood := { row := cnfSoundRow, standIns := [], harness := (true, "cd4422ba747a99e7e82a3171935879e65aa138984ecbcad6df243a657baf26c6"), looks := true }, kinds := [], alts := [], laidByText := true, laidKinds := [.data, .data, .data, .data, .sentinel, .sentinel, .pinned], laidTests := true, laidLooks := .later }
def CnfSoundCardSaid : Prop := Claim7.holds Tryz.pinned (.plain (OpenSpec.ofChange cnfSoundSpec)) cnfSoundCard

/-- THE SECOND FORM's CARD OF 'augurylaw08.CnfSound'. -/
def cnfSoundUptoCard : Claim7 := { stood := { row := cnfSoundUptoRow, standIns := [], harness := (true, "cd4422ba747a99e7e82a3171935879e65aa138984ecbcad6df243a657baf26c6"), looks := true }, kinds := [], alts := [], laidByText := true, laidKinds := [.data, .data, .data, .data, .sentinel, .sentinel, .pinned], laidTests := true, laidLooks := .later }
def CnfSoundUptoCardSaid : Prop := Claim7.holds Tryz.pinned (.plain (OpenSpec.upto cnfSoundSpec)) cnfSoundUptoCard
end Rows
end Go.Proofs.YtmegadjeficfjaaGreatDoor
