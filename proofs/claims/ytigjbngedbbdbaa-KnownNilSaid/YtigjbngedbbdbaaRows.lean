/-
  No cell of these rows narrows 'for every input' (looked for: loops, veiled, ifaces, maps, wideKeys, modest, calm, conditions, laid).
  DERIVED. THE GIVEN ROWS OF THIS SEAT. 3 by the template 'for every input the law returns true; each argument reads behind the call as it read before'; 0 by the template 'total and deterministic' (their statements: YtigjbngedbbdbaaTotals.lean).
  GIVEN WITH THE SEED: the statements are not yours to turn. If you find one false, say at which input.
  Laid BY PROGRAM, IN A SANDBOX (cutbox-rows.mjs): the forced cells as the released guide's own fill.sh prints them over the translation e2136681f40f673e… (all of the seat's roots in one cut). By AI agents, Wed Nov 11 2026. No macro, syntax, notation, axiom, sorry.
-/
import Derived.Test.YtigjbngedbbdbaaChecked
import GoSem.Claim
import GoSem.ClaimJoined
import GoSem.ClaimMapViews
import Derived.JoinedTies
import Derived.KernelRfl
namespace Go.Proofs.Ytigjbngedbbdbaa
/- THE CELL 'sum', in the pinned program and in every row, IS THE sha256 OF THE DUMP (.gsa) THAT YtigjbngedbbdbaaProg.lean LOADS. Nothing in Lean hashes anything: it is a label: what it is worth is what the hold of that sum in a sandbox is worth. -/
noncomputable def Try.pinned : Pinned := { name := "ytigjbngedbbdbaa", sum := "e2136681f40f673e5355417e327170bda8f1eec6e108f332de3243a4cf585264", checked := Try.checked }
namespace Rows
def none {H : Type} : Left H := { results := [], args := [] }

/-- 'augurylaw05.KnownTells': WHATEVER THE INPUT: true; the input reads as it did. -/
def knownTellsSpec : ChangeSpec := { name := "knownTells", fn := fun _ => fun
  | [d1, d2] => { results := [.lit (.bool true)], args := [d1, d2] }
  | _ => none }
def knownTellsRow : OpenClaim := { program := "ytigjbngedbbdbaa", sum := "e2136681f40f673e5355417e327170bda8f1eec6e108f332de3243a4cf585264", func := "augury/augurylaw05.KnownTells", spec := "knownTells", recurses := true, plainKeys := false, apart := false }
def KnownTellsSaid : Prop := knownTellsRow.holds Try.pinned (OpenSpec.ofChange knownTellsSpec)

/-- ITS FALSE NEIGHBOUR: 'it returns false'. Refute it at one input. -/
def knownTellsWrong : ChangeSpec := { name := "knownTells", fn := fun _ => fun
  | [d1, d2] => { results := [.lit (.bool false)], args := [d1, d2] }
  | _ => none }
def KnownTellsWrongFalsely : Prop := knownTellsRow.holds Try.pinned (OpenSpec.ofChange knownTellsWrong)

/-- 'augurylaw05.KnownHolds': WHATEVER THE INPUT: true; the input reads as it did. -/
def knownHoldsSpec : ChangeSpec := { name := "knownHolds", fn := fun _ => fun
  | [d1, d2, d3] => { results := [.lit (.bool true)], args := [d1, d2, d3] }
  | _ => none }
def knownHoldsRow : OpenClaim := { program := "ytigjbngedbbdbaa", sum := "e2136681f40f673e5355417e327170bda8f1eec6e108f332de3243a4cf585264", func := "augury/augurylaw05.KnownHolds", spec := "knownHolds", recurses := true, plainKeys := false, apart := false }
def KnownHoldsSaid : Prop := knownHoldsRow.holds Try.pinned (OpenSpec.ofChange knownHoldsSpec)

/-- ITS FALSE NEIGHBOUR: 'it returns false'. Refute it at one input. -/
def knownHoldsWrong : ChangeSpec := { name := "knownHolds", fn := fun _ => fun
  | [d1, d2, d3] => { results := [.lit (.bool false)], args := [d1, d2, d3] }
  | _ => none }
def KnownHoldsWrongFalsely : Prop := knownHoldsRow.holds Try.pinned (OpenSpec.ofChange knownHoldsWrong)

/-- 'augurylaw05.KnownNil': WHATEVER THE INPUT: true; the input reads as it did. -/
def knownNilSpec : ChangeSpec := { name := "knownNil", fn := fun _ => fun
  | [d1, d2] => { results := [.lit (.bool true)], args := [d1, d2] }
  | _ => none }
def knownNilRow : OpenClaim := { program := "ytigjbngedbbdbaa", sum := "e2136681f40f673e5355417e327170bda8f1eec6e108f332de3243a4cf585264", func := "augury/augurylaw05.KnownNil", spec := "knownNil", recurses := true, plainKeys := false, apart := false }
def KnownNilSaid : Prop := knownNilRow.holds Try.pinned (OpenSpec.ofChange knownNilSpec)

/-- ITS FALSE NEIGHBOUR: 'it returns false'. Refute it at one input. -/
def knownNilWrong : ChangeSpec := { name := "knownNil", fn := fun _ => fun
  | [d1, d2] => { results := [.lit (.bool false)], args := [d1, d2] }
  | _ => none }
def KnownNilWrongFalsely : Prop := knownNilRow.holds Try.pinned (OpenSpec.ofChange knownNilWrong)

/- THE SECOND FORM. 'bulk': how many values and letters a reading holds, each counted each time it is reached (what is shared counts as often as it is met; a slice's spare places count too). A statement '..UptoSaid' is the law's where the arguments, and the package variables that the reading takes, are together of bulk at most 1048576: NARROWER than '..Said'. Prove '..Said' where nothing that the law and all that it calls make is longer than what came in: it says more and counts as full. Else prove '..UptoSaid'. A law counts once. -/
mutual
def uptoBulk {H : Type} : DataW H → Nat
  | .lit (.string bytes) => bytes.length + 1
  | .lit _ => 1
  | .nil => 1
  | .ptr d => uptoBulk d + 1
  | .slice elems spare => uptoBulkAll elems + uptoBulkAll spare + 1
  | .agg parts => uptoBulkAll parts + 1
  | .iface _ d => uptoBulk d + 1
  | .map entries => uptoBulkEntries entries + 1
  | .held _ => 1
def uptoBulkAll {H : Type} : List (DataW H) → Nat
  | [] => 0
  | d :: r => uptoBulk d + uptoBulkAll r
def uptoBulkEntries {H : Type} : List (Lit × DataW H) → Nat
  | [] => 0
  | x :: r => uptoBulkEntry x + uptoBulkEntries r
def uptoBulkEntry {H : Type} : Lit × DataW H → Nat
  | (.string bytes, d) => bytes.length + uptoBulk d + 1
  | (_, d) => uptoBulk d + 1
 end
def uptoSmall : (H : Type) → List (DataW H) → Bool := fun _ ds => decide (uptoBulkAll ds ≤ 1048576)
def OpenSpec.upto (s : _root_.Go.ChangeSpec) : _root_.Go.OpenSpec := { _root_.Go.OpenSpec.ofChange s with cond := some uptoSmall }

/-- 'augurylaw05.KnownTells', WHERE WHAT IT READS IS OF BULK AT MOST 1048576: true; the input reads as it did. -/
def knownTellsUptoRow : OpenClaim := { program := "ytigjbngedbbdbaa", sum := "e2136681f40f673e5355417e327170bda8f1eec6e108f332de3243a4cf585264", func := "augury/augurylaw05.KnownTells", spec := "knownTells", recurses := true, plainKeys := false, apart := false, narrowed := true }
def KnownTellsUptoSaid : Prop := knownTellsUptoRow.holds Try.pinned (OpenSpec.upto knownTellsSpec)

/-- 'augurylaw05.KnownHolds', WHERE WHAT IT READS IS OF BULK AT MOST 1048576: true; the input reads as it did. -/
def knownHoldsUptoRow : OpenClaim := { program := "ytigjbngedbbdbaa", sum := "e2136681f40f673e5355417e327170bda8f1eec6e108f332de3243a4cf585264", func := "augury/augurylaw05.KnownHolds", spec := "knownHolds", recurses := true, plainKeys := false, apart := false, narrowed := true }
def KnownHoldsUptoSaid : Prop := knownHoldsUptoRow.holds Try.pinned (OpenSpec.upto knownHoldsSpec)

/-- 'augurylaw05.KnownNil', WHERE WHAT IT READS IS OF BULK AT MOST 1048576: true; the input reads as it did. -/
def knownNilUptoRow : OpenClaim := { program := "ytigjbngedbbdbaa", sum := "e2136681f40f673e5355417e327170bda8f1eec6e108f332de3243a4cf585264", func := "augury/augurylaw05.KnownNil", spec := "knownNil", recurses := true, plainKeys := false, apart := false, narrowed := true }
def KnownNilUptoSaid : Prop := knownNilUptoRow.holds Try.pinned (OpenSpec.upto knownNilSpec)

end Rows
end Go.Proofs.Ytigjbngedbbdbaa
