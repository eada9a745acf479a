/-
  DERIVED. GIVEN WITH THE SEED: THE CARDS: each row of YtkiegiofholofaaGreatDoorRows.lean that lists a variable, with what it lists TIED to the program's text (the seventh form; the later family's looks); each row that meets fmt, with fmt's text TOLD by the authors' own Lean function (tested against real Go, not proved from fmt's source: count such statements apart). THE CARD IS WHAT COUNTS. Prove the row's statement (the work); the ties are given (YtkiegiofholofaaGreatDoorTie.lean); close each card by the builder's one call (the guide's Derived/Test/ToyasCard.lean, 'card_holds'). Laid BY PROGRAM, IN A SANDBOX (cutbox-door.mjs). By AI agents, Wed Nov 11 2026. No macro, syntax, notation, axiom, sorry.
-/
import Derived.Test.YtkiegiofholofaaGreatDoorRows
import GoSem.ClaimSeven
namespace Go.Proofs.YtkiegiofholofaaGreatDoor
namespace Rows

/-- THE TIED CARD OF 'augurylaw06.RuleSteps'. -/
def ruleStepsCard : Claim7 := { stood := { row := ruleStepsRow, standIns := [], harness := (true, "fc489c82806023eb3ec525ede566c6c3288e3db3aefc2f1f85229e4f9119f1de"), looks := true }, kinds := [], alts := [], laidByText := true, laidKinds := [.data, .data, .data, .sentinel, .sentinel, .data], laidTests := true, laidLooks := .later }
def RuleStepsCardSaid : Prop := Claim7.holds Tryz.pinned (.plain (OpenSpec.ofChange ruleStepsSpec)) ruleStepsCard

/-- THE TIED CARD OF 'augurylaw06.RuleHolds'. -/
def ruleHoldsCard : Claim7 := { stood := { row := ruleHoldsRow, standIns := [], harness := (true, "fc489c82806023eb3ec525ede566c6c3288e3db3aefc2f1f85229e4f9119f1de"), looks := true }, kinds := [], alts := [], laidByText := true, laidKinds := [.data, .data, .data, .sentinel, .sentinel, .data], laidTests := true, laidLooks := .later }
def RuleHoldsCardSaid : Prop := Claim7.holds Tryz.pinned (.plain (OpenSpec.ofChange ruleHoldsSpec)) ruleHoldsCard

/-- THE TIED CARD OF 'augurylaw06.RuleEnds'. -/
def ruleEndsCard : Claim7 := { stood := { row := ruleEndsRow, standIns := [], harness := (true, "fc489c82806023eb3ec525ede566c6c3288e3db3aefc2f1f85229e4f9119f1de"), looks := true }, kinds := [], alts := [], laidByText := true, laidKinds := [.data, .data, .data, .sentinel, .sentinel, .data], laidTests := true, laidLooks := .later }
def RuleEndsCardSaid : Prop := Claim7.holds Tryz.pinned (.plain (OpenSpec.ofChange ruleEndsSpec)) ruleEndsCard

/-- THE TIED CARD OF 'augurylaw06.RuleNil'. -/
def ruleNilCard : Claim7 := { stood := { row := ruleNilRow, standIns := [], harness := (true, "fc489c82806023eb3ec525ede566c6c3288e3db3aefc2f1f85229e4f9119f1de"), looks := true }, kinds := [], alts := [], laidByText := true, laidKinds := [.data, .data, .data, .sentinel, .sentinel, .data], laidTests := true, laidLooks := .later }
def RuleNilCardSaid : Prop := Claim7.holds Tryz.pinned (.plain (OpenSpec.ofChange ruleNilSpec)) ruleNilCard

/-- THE SECOND FORM's CARD OF 'augurylaw06.RuleSteps'. -/
def ruleStepsUptoCard : Claim7 := { stood := { row := ruleStepsUptoRow, standIns := [], harness := (true, "fc489c82806023eb3ec525ede566c6c3288e3db3aefc2f1f85229e4f9119f1de"), looks := true }, kinds := [], alts := [], laidByText := true, laidKinds := [.data, .data, .data, .sentinel, .sentinel, .data], laidTests := true, laidLooks := .later }
def RuleStepsUptoCardSaid : Prop := Claim7.holds Tryz.pinned (.plain (OpenSpec.upto ruleStepsSpec)) ruleStepsUptoCard

/-- THE SECOND FORM's CARD OF 'augurylaw06.RuleHolds'. -/
def ruleHoldsUptoCard : Claim7 := { stood := { row := ruleHoldsUptoRow, standIns := [], harness := (true, "fc489c82806023eb3ec525ede566c6c3288e3db3aefc2f1f85229e4f9119f1de"), looks := true }, kinds := [], alts := [], laidByText := true, laidKinds := [.data, .data, .data, .sentinel, .sentinel, .data], laidTests := true, laidLooks := .later }
def RuleHoldsUptoCardSaid : Prop := Claim7.holds Tryz.pinned (.plain (OpenSpec.upto ruleHoldsSpec)) ruleHoldsUptoCard

/-- THE SECOND FORM's CARD OF 'augurylaw06.RuleEnds'. -/
def ruleEndsUptoCard : Claim7 := { stood := { row := ruleEndsUptoRow, standIns := [], harness := (true, "fc489c82806023eb3ec525ede566c6c3288e3db3aefc2f1f85229e4f9119f1de"), looks := true }, kinds := [], alts := [], laidByText := true, laidKinds := [.data, .data, .data, .sentinel, .sentinel, .data], laidTests := true, laidLooks := .later }
def RuleEndsUptoCardSaid : Prop := Claim7.holds Tryz.pinned (.plain (OpenSpec.upto ruleEndsSpec)) ruleEndsUptoCard

/-- THE SECOND FORM's CARD OF 'augurylaw06.RuleNil'. -/
def ruleNilUptoCard : Claim7 := { stood := { row := ruleNilUptoRow, standIns := [], harness := (true, "fc489c82806023eb3ec525ede566c6c3288e3db3aefc2f1f85229e4f9119f1de"), looks := true }, kinds := [], alts := [], laidByText := true, laidKinds := [.data, .data, .data, .sentinel, .sentinel, .data], laidTests := true, laidLooks := .later }
def RuleNilUptoCardSaid : Prop := Claim7.holds Tryz.pinned (.plain (OpenSpec.upto ruleNilSpec)) ruleNilUptoCard
end Rows
end Go.Proofs.YtkiegiofholofaaGreatDoor
