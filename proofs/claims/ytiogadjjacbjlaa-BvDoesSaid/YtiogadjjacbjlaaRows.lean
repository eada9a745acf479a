/-
  No cell of these rows narrows 'for every input' (looked for: loops, veiled, ifaces, maps, wideKeys, modest, calm, conditions, laid).
  DERIVED. THE GIVEN ROWS OF THIS SEAT. 4 by the template 'for every input the law returns true; each argument reads behind the call as it read before'; 0 by the template 'total and deterministic' (their statements: YtiogadjjacbjlaaTotals.lean).
  GIVEN WITH THE SEED: the statements are not yours to turn. If you find one false, say at which input.
  Laid BY PROGRAM, IN A SANDBOX (cutbox-rows.mjs): the forced cells as the released guide's own fill.sh prints them over the translation 4d74fdf48cce99a0… (all of the seat's roots in one cut). By AI agents, Wed Nov 11 2026. No macro, syntax, notation, axiom, sorry.
-/
import Derived.Test.YtiogadjjacbjlaaChecked
import GoSem.Claim
import GoSem.ClaimJoined
import GoSem.ClaimMapViews
import Derived.JoinedTies
import Derived.KernelRfl
namespace Go.Proofs.Ytiogadjjacbjlaa
/- THE CELL 'sum', in the pinned program and in every row, IS THE sha256 OF THE DUMP (.gsa) THAT YtiogadjjacbjlaaProg.lean LOADS. Nothing in Lean hashes anything: it is a label: what it is worth is what the hold of that sum in a sandbox is worth. -/
noncomputable def Try.pinned : Pinned := { name := "ytiogadjjacbjlaa", sum := "4d74fdf48cce99a0575404bf7ee549d8a8d8bfffc26559cb6a65dc53d881848c", checked := Try.checked }
namespace Rows
def none {H : Type} : Left H := { results := [], args := [] }

/-- 'augurylaw01.BvDoes': WHATEVER THE INPUT: true; the input reads as it did. -/
def bvDoesSpec : ChangeSpec := { name := "bvDoes", fn := fun _ => fun
  | [d1, d2, d3] => { results := [.lit (.bool true)], args := [d1, d2, d3] }
  | _ => none }
def bvDoesRow : OpenClaim := { program := "ytiogadjjacbjlaa", sum := "4d74fdf48cce99a0575404bf7ee549d8a8d8bfffc26559cb6a65dc53d881848c", func := "augury/augurylaw01.BvDoes", spec := "bvDoes", apart := false }
def BvDoesSaid : Prop := bvDoesRow.holds Try.pinned (OpenSpec.ofChange bvDoesSpec)

/-- ITS FALSE NEIGHBOUR: 'it returns false'. Refute it at one input. -/
def bvDoesWrong : ChangeSpec := { name := "bvDoes", fn := fun _ => fun
  | [d1, d2, d3] => { results := [.lit (.bool false)], args := [d1, d2, d3] }
  | _ => none }
def BvDoesWrongFalsely : Prop := bvDoesRow.holds Try.pinned (OpenSpec.ofChange bvDoesWrong)

/-- 'augurylaw01.BvParts': WHATEVER THE INPUT: true; the input reads as it did. -/
def bvPartsSpec : ChangeSpec := { name := "bvParts", fn := fun _ => fun
  | [d1, d2, d3, d4, d5, d6] => { results := [.lit (.bool true)], args := [d1, d2, d3, d4, d5, d6] }
  | _ => none }
def bvPartsRow : OpenClaim := { program := "ytiogadjjacbjlaa", sum := "4d74fdf48cce99a0575404bf7ee549d8a8d8bfffc26559cb6a65dc53d881848c", func := "augury/augurylaw01.BvParts", spec := "bvParts", apart := false }
def BvPartsSaid : Prop := bvPartsRow.holds Try.pinned (OpenSpec.ofChange bvPartsSpec)

/-- ITS FALSE NEIGHBOUR: 'it returns false'. Refute it at one input. -/
def bvPartsWrong : ChangeSpec := { name := "bvParts", fn := fun _ => fun
  | [d1, d2, d3, d4, d5, d6] => { results := [.lit (.bool false)], args := [d1, d2, d3, d4, d5, d6] }
  | _ => none }
def BvPartsWrongFalsely : Prop := bvPartsRow.holds Try.pinned (OpenSpec.ofChange bvPartsWrong)

/-- 'augurylaw01.BvDivides': WHATEVER THE INPUT: true; the input reads as it did. -/
def bvDividesSpec : ChangeSpec := { name := "bvDivides", fn := fun _ => fun
  | [d1, d2] => { results := [.lit (.bool true)], args := [d1, d2] }
  | _ => none }
def bvDividesRow : OpenClaim := { program := "ytiogadjjacbjlaa", sum := "4d74fdf48cce99a0575404bf7ee549d8a8d8bfffc26559cb6a65dc53d881848c", func := "augury/augurylaw01.BvDivides", spec := "bvDivides", apart := false }
def BvDividesSaid : Prop := bvDividesRow.holds Try.pinned (OpenSpec.ofChange bvDividesSpec)

/-- ITS FALSE NEIGHBOUR: 'it returns false'. Refute it at one input. -/
def bvDividesWrong : ChangeSpec := { name := "bvDivides", fn := fun _ => fun
  | [d1, d2] => { results := [.lit (.bool false)], args := [d1, d2] }
  | _ => none }
def BvDividesWrongFalsely : Prop := bvDividesRow.holds Try.pinned (OpenSpec.ofChange bvDividesWrong)

/-- 'augurylaw01.BvFits': WHATEVER THE INPUT: true; the input reads as it did. -/
def bvFitsSpec : ChangeSpec := { name := "bvFits", fn := fun _ => fun
  | [d1, d2] => { results := [.lit (.bool true)], args := [d1, d2] }
  | _ => none }
def bvFitsRow : OpenClaim := { program := "ytiogadjjacbjlaa", sum := "4d74fdf48cce99a0575404bf7ee549d8a8d8bfffc26559cb6a65dc53d881848c", func := "augury/augurylaw01.BvFits", spec := "bvFits", apart := false }
def BvFitsSaid : Prop := bvFitsRow.holds Try.pinned (OpenSpec.ofChange bvFitsSpec)

/-- ITS FALSE NEIGHBOUR: 'it returns false'. Refute it at one input. -/
def bvFitsWrong : ChangeSpec := { name := "bvFits", fn := fun _ => fun
  | [d1, d2] => { results := [.lit (.bool false)], args := [d1, d2] }
  | _ => none }
def BvFitsWrongFalsely : Prop := bvFitsRow.holds Try.pinned (OpenSpec.ofChange bvFitsWrong)

/- THE SECOND FORM. 'bulk': how many values and letters a reading holds, each counted each time it is reached (what is shared counts as often as it is met; a slice's spare places count too). A statement '..UptoSaid' is the law's where the arguments, and the package variables that the reading takes, are together of bulk at most 1048576: NARROWER than '..Said'. Prove '..Said' where nothing that the law and all that it calls make is longer than what came in: it says more and counts as full. Else prove '..UptoSaid'. A law counts once. -/
mutual
def uptoBulk {H : Type} : DataW H → Nat
  | .lit (.string bytes) => bytes.length + 1
  | .lit _ => 1
  | .nil => 1
  | .ptr d => uptoBulk d + 1
  | .slice elems spare => uptoBulkAll elems + uptoBulkAll spare + 1
  | .agg parts => uptoBulkAll parts + 1
  | .iface _ d => uptoBulk d + 1
  | .map entries => uptoBulkEntries entries + 1
  | .held _ => 1
def uptoBulkAll {H : Type} : List (DataW H) → Nat
  | [] => 0
  | d :: r => uptoBulk d + uptoBulkAll r
def uptoBulkEntries {H : Type} : List (Lit × DataW H) → Nat
  | [] => 0
  | x :: r => uptoBulkEntry x + uptoBulkEntries r
def uptoBulkEntry {H : Type} : Lit × DataW H → Nat
  | (.string bytes, d) => bytes.length + uptoBulk d + 1
  | (_, d) => uptoBulk d + 1
 end
def uptoSmall : (H : Type) → List (DataW H) → Bool := fun _ ds => decide (uptoBulkAll ds ≤ 1048576)
def OpenSpec.upto (s : _root_.Go.ChangeSpec) : _root_.Go.OpenSpec := { _root_.Go.OpenSpec.ofChange s with cond := some uptoSmall }

/-- 'augurylaw01.BvDoes', WHERE WHAT IT READS IS OF BULK AT MOST 1048576: true; the input reads as it did. -/
def bvDoesUptoRow : OpenClaim := { program := "ytiogadjjacbjlaa", sum := "4d74fdf48cce99a0575404bf7ee549d8a8d8bfffc26559cb6a65dc53d881848c", func := "augury/augurylaw01.BvDoes", spec := "bvDoes", apart := false, narrowed := true }
def BvDoesUptoSaid : Prop := bvDoesUptoRow.holds Try.pinned (OpenSpec.upto bvDoesSpec)

/-- 'augurylaw01.BvParts', WHERE WHAT IT READS IS OF BULK AT MOST 1048576: true; the input reads as it did. -/
def bvPartsUptoRow : OpenClaim := { program := "ytiogadjjacbjlaa", sum := "4d74fdf48cce99a0575404bf7ee549d8a8d8bfffc26559cb6a65dc53d881848c", func := "augury/augurylaw01.BvParts", spec := "bvParts", apart := false, narrowed := true }
def BvPartsUptoSaid : Prop := bvPartsUptoRow.holds Try.pinned (OpenSpec.upto bvPartsSpec)

/-- 'augurylaw01.BvDivides', WHERE WHAT IT READS IS OF BULK AT MOST 1048576: true; the input reads as it did. -/
def bvDividesUptoRow : OpenClaim := { program := "ytiogadjjacbjlaa", sum := "4d74fdf48cce99a0575404bf7ee549d8a8d8bfffc26559cb6a65dc53d881848c", func := "augury/augurylaw01.BvDivides", spec := "bvDivides", apart := false, narrowed := true }
def BvDividesUptoSaid : Prop := bvDividesUptoRow.holds Try.pinned (OpenSpec.upto bvDividesSpec)

/-- 'augurylaw01.BvFits', WHERE WHAT IT READS IS OF BULK AT MOST 1048576: true; the input reads as it did. -/
def bvFitsUptoRow : OpenClaim := { program := "ytiogadjjacbjlaa", sum := "4d74fdf48cce99a0575404bf7ee549d8a8d8bfffc26559cb6a65dc53d881848c", func := "augury/augurylaw01.BvFits", spec := "bvFits", apart := false, narrowed := true }
def BvFitsUptoSaid : Prop := bvFitsUptoRow.holds Try.pinned (OpenSpec.upto bvFitsSpec)

end Rows
end Go.Proofs.Ytiogadjjacbjlaa
