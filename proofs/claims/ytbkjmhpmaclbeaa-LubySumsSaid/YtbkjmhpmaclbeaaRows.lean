/-
  No cell of these rows narrows 'for every input' (looked for: loops, veiled, ifaces, maps, wideKeys, modest, calm, conditions, laid).
  DERIVED. THE GIVEN ROWS OF THIS SEAT. 4 by the template 'for every input the law returns true; each argument reads behind the call as it read before'; 0 by the template 'total and deterministic' (their statements: YtbkjmhpmaclbeaaTotals.lean).
  GIVEN WITH THE SEED: the statements are not yours to turn. If you find one false, say at which input.
  Laid BY PROGRAM, IN A SANDBOX (cutbox-rows.mjs): the forced cells as the released guide's own fill.sh prints them over the translation ef36b3768c373a89… (all of the seat's roots in one cut). By AI agents, Wed Nov 11 2026. No macro, syntax, notation, axiom, sorry.
-/
import Derived.Test.YtbkjmhpmaclbeaaChecked
import GoSem.Claim
import GoSem.ClaimJoined
import GoSem.ClaimMapViews
import Derived.JoinedTies
import Derived.KernelRfl
namespace Go.Proofs.Ytbkjmhpmaclbeaa
/- THE CELL 'sum', in the pinned program and in every row, IS THE sha256 OF THE DUMP (.gsa) THAT YtbkjmhpmaclbeaaProg.lean LOADS. Nothing in Lean hashes anything: it is a label: what it is worth is what the hold of that sum in a sandbox is worth. -/
noncomputable def Try.pinned : Pinned := { name := "ytbkjmhpmaclbeaa", sum := "ef36b3768c373a89af006f44e2232b434d2124e033068a50571c6635d27c192c", checked := Try.checked }
namespace Rows
def none {H : Type} : Left H := { results := [], args := [] }

/-- 'augurylaw11.LubyTells': WHATEVER THE INPUT: true; the input reads as it did. -/
def lubyTellsSpec : ChangeSpec := { name := "lubyTells", fn := fun _ => fun
  | [d1, d2] => { results := [.lit (.bool true)], args := [d1, d2] }
  | _ => none }
def lubyTellsRow : OpenClaim := { program := "ytbkjmhpmaclbeaa", sum := "ef36b3768c373a89af006f44e2232b434d2124e033068a50571c6635d27c192c", func := "augury/augurylaw11.LubyTells", spec := "lubyTells", unfollowed := true, recurses := true, apart := false }
def LubyTellsSaid : Prop := lubyTellsRow.holds Try.pinned (OpenSpec.ofChange lubyTellsSpec)

/-- ITS FALSE NEIGHBOUR: 'it returns false'. Refute it at one input. -/
def lubyTellsWrong : ChangeSpec := { name := "lubyTells", fn := fun _ => fun
  | [d1, d2] => { results := [.lit (.bool false)], args := [d1, d2] }
  | _ => none }
def LubyTellsWrongFalsely : Prop := lubyTellsRow.holds Try.pinned (OpenSpec.ofChange lubyTellsWrong)

/-- 'augurylaw11.LubySums': WHATEVER THE INPUT: true; the input reads as it did. -/
def lubySumsSpec : ChangeSpec := { name := "lubySums", fn := fun _ => fun
  | [d] => { results := [.lit (.bool true)], args := [d] }
  | _ => none }
def lubySumsRow : OpenClaim := { program := "ytbkjmhpmaclbeaa", sum := "ef36b3768c373a89af006f44e2232b434d2124e033068a50571c6635d27c192c", func := "augury/augurylaw11.LubySums", spec := "lubySums", unfollowed := true, recurses := true, apart := false }
def LubySumsSaid : Prop := lubySumsRow.holds Try.pinned (OpenSpec.ofChange lubySumsSpec)

/-- ITS FALSE NEIGHBOUR: 'it returns false'. Refute it at one input. -/
def lubySumsWrong : ChangeSpec := { name := "lubySums", fn := fun _ => fun
  | [d] => { results := [.lit (.bool false)], args := [d] }
  | _ => none }
def LubySumsWrongFalsely : Prop := lubySumsRow.holds Try.pinned (OpenSpec.ofChange lubySumsWrong)

/-- 'augurylaw11.LubySteps': WHATEVER THE INPUT: true; the input reads as it did. -/
def lubyStepsSpec : ChangeSpec := { name := "lubySteps", fn := fun _ => fun
  | [d] => { results := [.lit (.bool true)], args := [d] }
  | _ => none }
def lubyStepsRow : OpenClaim := { program := "ytbkjmhpmaclbeaa", sum := "ef36b3768c373a89af006f44e2232b434d2124e033068a50571c6635d27c192c", func := "augury/augurylaw11.LubySteps", spec := "lubySteps", unfollowed := true, recurses := true, apart := false }
def LubyStepsSaid : Prop := lubyStepsRow.holds Try.pinned (OpenSpec.ofChange lubyStepsSpec)

/-- ITS FALSE NEIGHBOUR: 'it returns false'. Refute it at one input. -/
def lubyStepsWrong : ChangeSpec := { name := "lubySteps", fn := fun _ => fun
  | [d] => { results := [.lit (.bool false)], args := [d] }
  | _ => none }
def LubyStepsWrongFalsely : Prop := lubyStepsRow.holds Try.pinned (OpenSpec.ofChange lubyStepsWrong)

/-- 'augurylaw11.LubyPowers': WHATEVER THE INPUT: true; the input reads as it did. -/
def lubyPowersSpec : ChangeSpec := { name := "lubyPowers", fn := fun _ => fun
  | [d1, d2] => { results := [.lit (.bool true)], args := [d1, d2] }
  | _ => none }
def lubyPowersRow : OpenClaim := { program := "ytbkjmhpmaclbeaa", sum := "ef36b3768c373a89af006f44e2232b434d2124e033068a50571c6635d27c192c", func := "augury/augurylaw11.LubyPowers", spec := "lubyPowers", unfollowed := true, recurses := true, apart := false }
def LubyPowersSaid : Prop := lubyPowersRow.holds Try.pinned (OpenSpec.ofChange lubyPowersSpec)

/-- ITS FALSE NEIGHBOUR: 'it returns false'. Refute it at one input. -/
def lubyPowersWrong : ChangeSpec := { name := "lubyPowers", fn := fun _ => fun
  | [d1, d2] => { results := [.lit (.bool false)], args := [d1, d2] }
  | _ => none }
def LubyPowersWrongFalsely : Prop := lubyPowersRow.holds Try.pinned (OpenSpec.ofChange lubyPowersWrong)

/- THE SECOND FORM. 'bulk': how many values and letters a reading holds, each counted each time it is reached (what is shared counts as often as it is met; a slice's spare places count too). A statement '..UptoSaid' is the law's where the arguments, and the package variables that the reading takes, are together of bulk at most 1048576: NARROWER than '..Said'. Prove '..Said' where nothing that the law and all that it calls make is longer than what came in: it says more and counts as full. Else prove '..UptoSaid'. A law counts once. -/
mutual
def uptoBulk {H : Type} : DataW H → Nat
  | .lit (.string bytes) => bytes.length + 1
  | .lit _ => 1
  | .nil => 1
  | .ptr d => uptoBulk d + 1
  | .slice elems spare => uptoBulkAll elems + uptoBulkAll spare + 1
  | .agg parts => uptoBulkAll parts + 1
  | .iface _ d => uptoBulk d + 1
  | .map entries => uptoBulkEntries entries + 1
  | .held _ => 1
def uptoBulkAll {H : Type} : List (DataW H) → Nat
  | [] => 0
  | d :: r => uptoBulk d + uptoBulkAll r
def uptoBulkEntries {H : Type} : List (Lit × DataW H) → Nat
  | [] => 0
  | x :: r => uptoBulkEntry x + uptoBulkEntries r
def uptoBulkEntry {H : Type} : Lit × DataW H → Nat
  | (.string bytes, d) => bytes.length + uptoBulk d + 1
  | (_, d) => uptoBulk d + 1
 end
def uptoSmall : (H : Type) → List (DataW H) → Bool := fun _ ds => decide (uptoBulkAll ds ≤ 1048576)
def OpenSpec.upto (s : _root_.Go.ChangeSpec) : _root_.Go.OpenSpec := { _root_.Go.OpenSpec.ofChange s with cond := some uptoSmall }

/-- 'augurylaw11.LubyTells', WHERE WHAT IT READS IS OF BULK AT MOST 1048576: true; the input reads as it did. -/
def lubyTellsUptoRow : OpenClaim := { program := "ytbkjmhpmaclbeaa", sum := "ef36b3768c373a89af006f44e2232b434d2124e033068a50571c6635d27c192c", func := "augury/augurylaw11.LubyTells", spec := "lubyTells", unfollowed := true, recurses := true, apart := false, narrowed := true }
def LubyTellsUptoSaid : Prop := lubyTellsUptoRow.holds Try.pinned (OpenSpec.upto lubyTellsSpec)

/-- 'augurylaw11.LubySums', WHERE WHAT IT READS IS OF BULK AT MOST 1048576: true; the input reads as it did. -/
def lubySumsUptoRow : OpenClaim := { program := "ytbkjmhpmaclbeaa", sum := "ef36b3768c373a89af006f44e2232b434d2124e033068a50571c6635d27c192c", func := "augury/augurylaw11.LubySums", spec := "lubySums", unfollowed := true, recurses := true, apart := false, narrowed := true }
def LubySumsUptoSaid : Prop := lubySumsUptoRow.holds Try.pinned (OpenSpec.upto lubySumsSpec)

/-- 'augurylaw11.LubySteps', WHERE WHAT IT READS IS OF BULK AT MOST 1048576: true; the input reads as it did. -/
def lubyStepsUptoRow : OpenClaim := { program := "ytbkjmhpmaclbeaa", sum := "ef36b3768c373a89af006f44e2232b434d2124e033068a50571c6635d27c192c", func := "augury/augurylaw11.LubySteps", spec := "lubySteps", unfollowed := true, recurses := true, apart := false, narrowed := true }
def LubyStepsUptoSaid : Prop := lubyStepsUptoRow.holds Try.pinned (OpenSpec.upto lubyStepsSpec)

/-- 'augurylaw11.LubyPowers', WHERE WHAT IT READS IS OF BULK AT MOST 1048576: true; the input reads as it did. -/
def lubyPowersUptoRow : OpenClaim := { program := "ytbkjmhpmaclbeaa", sum := "ef36b3768c373a89af006f44e2232b434d2124e033068a50571c6635d27c192c", func := "augury/augurylaw11.LubyPowers", spec := "lubyPowers", unfollowed := true, recurses := true, apart := false, narrowed := true }
def LubyPowersUptoSaid : Prop := lubyPowersUptoRow.holds Try.pinned (OpenSpec.upto lubyPowersSpec)

end Rows
end Go.Proofs.Ytbkjmhpmaclbeaa
