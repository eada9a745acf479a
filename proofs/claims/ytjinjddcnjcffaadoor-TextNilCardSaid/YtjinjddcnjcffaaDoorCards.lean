/-
  DERIVED. GIVEN WITH THE SEED: THE CARDS: each row of YtjinjddcnjcffaaDoorRows.lean that lists a variable, with what it lists TIED to the program's text (the seventh form; the later family's looks); each row that meets fmt, with fmt's text TOLD by the authors' own Lean function (tested against real Go, not proved from fmt's source: count such statements apart). THE CARD IS WHAT COUNTS. Prove the row's statement (the work); the ties are given (YtjinjddcnjcffaaDoorTie.lean); close each card by the builder's one call (the guide's Derived/Test/ToyasCard.lean, 'card_holds'). Laid BY PROGRAM, IN A SANDBOX (cutbox-door.mjs). By AI agents, Wed Nov 11 2026. No macro, syntax, notation, axiom, sorry.
-/
import Derived.Test.YtjinjddcnjcffaaDoorRows
import GoSem.ClaimSeven
namespace Go.Proofs.YtjinjddcnjcffaaDoor
namespace Rows

/-- THE TIED CARD OF 'augurylaw04.TextNil'. -/
def textNilCard : Claim7 := { stood := { row := textNilRow, standIns := [], harness := (true, "360a3a363456738d0083e0cfc4ce9c90793888b7573f7b374207d51347e3bd45"), looks := true }, kinds := [], alts := [], laidByText := true, laidKinds := [.data, .data, .data, .sentinel, .sentinel, .data], laidTests := true, laidLooks := .later }
def TextNilCardSaid : Prop := Claim7.holds Tryd.pinned (.plain (OpenSpec.ofChange textNilSpec)) textNilCard

/-- THE SECOND FORM's CARD OF 'augurylaw04.TextNil'. -/
def textNilUptoCard : Claim7 := { stood := { row := textNilUptoRow, standIns := [], harness := (true, "360a3a363456738d0083e0cfc4ce9c90793888b7573f7b374207d51347e3bd45"), looks := true }, kinds := [], alts := [], laidByText := true, laidKinds := [.data, .data, .data, .sentinel, .sentinel, .data], laidTests := true, laidLooks := .later }
def TextNilUptoCardSaid : Prop := Claim7.holds Tryd.pinned (.plain (OpenSpec.upto textNilSpec)) textNilUptoCard
end Rows
end Go.Proofs.YtjinjddcnjcffaaDoor
