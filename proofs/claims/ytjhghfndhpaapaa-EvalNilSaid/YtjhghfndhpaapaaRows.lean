/-
  No cell of these rows narrows 'for every input' (looked for: loops, veiled, ifaces, maps, wideKeys, modest, calm, conditions, laid).
  DERIVED. THE GIVEN ROWS OF THIS SEAT. 4 by the template 'for every input the law returns true; each argument reads behind the call as it read before'; 0 by the template 'total and deterministic' (their statements: YtjhghfndhpaapaaTotals.lean).
  GIVEN WITH THE SEED: the statements are not yours to turn. If you find one false, say at which input.
  Laid BY PROGRAM, IN A SANDBOX (cutbox-rows.mjs): the forced cells as the released guide's own fill.sh prints them over the translation 04707ee5adffd219… (all of the seat's roots in one cut). By AI agents, Wed Nov 11 2026. No macro, syntax, notation, axiom, sorry.
-/
import Derived.Test.YtjhghfndhpaapaaChecked
import GoSem.Claim
import GoSem.ClaimJoined
import GoSem.ClaimMapViews
import Derived.JoinedTies
import Derived.KernelRfl
namespace Go.Proofs.Ytjhghfndhpaapaa
/- THE CELL 'sum', in the pinned program and in every row, IS THE sha256 OF THE DUMP (.gsa) THAT YtjhghfndhpaapaaProg.lean LOADS. Nothing in Lean hashes anything: it is a label: what it is worth is what the hold of that sum in a sandbox is worth. -/
noncomputable def Try.pinned : Pinned := { name := "ytjhghfndhpaapaa", sum := "04707ee5adffd219adbf10634a1d2dadd055eaffa7dc0a16e8d1d13a1d0803e2", checked := Try.checked }
namespace Rows
def none {H : Type} : Left H := { results := [], args := [] }

/-- 'augurylaw03.EvalTells': WHATEVER THE INPUT: true; the input reads as it did. -/
def evalTellsSpec : ChangeSpec := { name := "evalTells", fn := fun _ => fun
  | [d1, d2, d3] => { results := [.lit (.bool true)], args := [d1, d2, d3] }
  | _ => none }
def evalTellsRow : OpenClaim := { program := "ytjhghfndhpaapaa", sum := "04707ee5adffd219adbf10634a1d2dadd055eaffa7dc0a16e8d1d13a1d0803e2", func := "augury/augurylaw03.EvalTells", spec := "evalTells", unfollowed := true, recurses := true, plainKeys := false, apart := false }
def EvalTellsSaid : Prop := evalTellsRow.holds Try.pinned (OpenSpec.ofChange evalTellsSpec)

/-- ITS FALSE NEIGHBOUR: 'it returns false'. Refute it at one input. -/
def evalTellsWrong : ChangeSpec := { name := "evalTells", fn := fun _ => fun
  | [d1, d2, d3] => { results := [.lit (.bool false)], args := [d1, d2, d3] }
  | _ => none }
def EvalTellsWrongFalsely : Prop := evalTellsRow.holds Try.pinned (OpenSpec.ofChange evalTellsWrong)

/-- 'augurylaw03.EvalAll': WHATEVER THE INPUT: true; the input reads as it did. -/
def evalAllSpec : ChangeSpec := { name := "evalAll", fn := fun _ => fun
  | [d1, d2, d3] => { results := [.lit (.bool true)], args := [d1, d2, d3] }
  | _ => none }
def evalAllRow : OpenClaim := { program := "ytjhghfndhpaapaa", sum := "04707ee5adffd219adbf10634a1d2dadd055eaffa7dc0a16e8d1d13a1d0803e2", func := "augury/augurylaw03.EvalAll", spec := "evalAll", unfollowed := true, recurses := true, plainKeys := false, apart := false }
def EvalAllSaid : Prop := evalAllRow.holds Try.pinned (OpenSpec.ofChange evalAllSpec)

/-- ITS FALSE NEIGHBOUR: 'it returns false'. Refute it at one input. -/
def evalAllWrong : ChangeSpec := { name := "evalAll", fn := fun _ => fun
  | [d1, d2, d3] => { results := [.lit (.bool false)], args := [d1, d2, d3] }
  | _ => none }
def EvalAllWrongFalsely : Prop := evalAllRow.holds Try.pinned (OpenSpec.ofChange evalAllWrong)

/-- 'augurylaw03.EvalHangs': WHATEVER THE INPUT: true; the input reads as it did. -/
def evalHangsSpec : ChangeSpec := { name := "evalHangs", fn := fun _ => fun
  | [d1, d2, d3, d4] => { results := [.lit (.bool true)], args := [d1, d2, d3, d4] }
  | _ => none }
def evalHangsRow : OpenClaim := { program := "ytjhghfndhpaapaa", sum := "04707ee5adffd219adbf10634a1d2dadd055eaffa7dc0a16e8d1d13a1d0803e2", func := "augury/augurylaw03.EvalHangs", spec := "evalHangs", unfollowed := true, recurses := true, plainKeys := false, apart := false }
def EvalHangsSaid : Prop := evalHangsRow.holds Try.pinned (OpenSpec.ofChange evalHangsSpec)

/-- ITS FALSE NEIGHBOUR: 'it returns false'. Refute it at one input. -/
def evalHangsWrong : ChangeSpec := { name := "evalHangs", fn := fun _ => fun
  | [d1, d2, d3, d4] => { results := [.lit (.bool false)], args := [d1, d2, d3, d4] }
  | _ => none }
def EvalHangsWrongFalsely : Prop := evalHangsRow.holds Try.pinned (OpenSpec.ofChange evalHangsWrong)

/-- 'augurylaw03.EvalNil': WHATEVER THE INPUT: true; the input reads as it did. -/
def evalNilSpec : ChangeSpec := { name := "evalNil", fn := fun _ => fun
  | [d1, d2, d3] => { results := [.lit (.bool true)], args := [d1, d2, d3] }
  | _ => none }
def evalNilRow : OpenClaim := { program := "ytjhghfndhpaapaa", sum := "04707ee5adffd219adbf10634a1d2dadd055eaffa7dc0a16e8d1d13a1d0803e2", func := "augury/augurylaw03.EvalNil", spec := "evalNil", unfollowed := true, recurses := true, plainKeys := false, apart := false }
def EvalNilSaid : Prop := evalNilRow.holds Try.pinned (OpenSpec.ofChange evalNilSpec)

/-- ITS FALSE NEIGHBOUR: 'it returns false'. Refute it at one input. -/
def evalNilWrong : ChangeSpec := { name := "evalNil", fn := fun _ => fun
  | [d1, d2, d3] => { results := [.lit (.bool false)], args := [d1, d2, d3] }
  | _ => none }
def EvalNilWrongFalsely : Prop := evalNilRow.holds Try.pinned (OpenSpec.ofChange evalNilWrong)

/- THE SECOND FORM. 'bulk': how many values and letters a reading holds, each counted each time it is reached (what is shared counts as often as it is met; a slice's spare places count too). A statement '..UptoSaid' is the law's where the arguments, and the package variables that the reading takes, are together of bulk at most 1048576: NARROWER than '..Said'. Prove '..Said' where nothing that the law and all that it calls make is longer than what came in: it says more and counts as full. Else prove '..UptoSaid'. A law counts once. -/
mutual
def uptoBulk {H : Type} : DataW H → Nat
  | .lit (.string bytes) => bytes.length + 1
  | .lit _ => 1
  | .nil => 1
  | .ptr d => uptoBulk d + 1
  | .slice elems spare => uptoBulkAll elems + uptoBulkAll spare + 1
  | .agg parts => uptoBulkAll parts + 1
  | .iface _ d => uptoBulk d + 1
  | .map entries => uptoBulkEntries entries + 1
  | .held _ => 1
def uptoBulkAll {H : Type} : List (DataW H) → Nat
  | [] => 0
  | d :: r => uptoBulk d + uptoBulkAll r
def uptoBulkEntries {H : Type} : List (Lit × DataW H) → Nat
  | [] => 0
  | x :: r => uptoBulkEntry x + uptoBulkEntries r
def uptoBulkEntry {H : Type} : Lit × DataW H → Nat
  | (.string bytes, d) => bytes.length + uptoBulk d + 1
  | (_, d) => uptoBulk d + 1
 end
def uptoSmall : (H : Type) → List (DataW H) → Bool := fun _ ds => decide (uptoBulkAll ds ≤ 1048576)
def OpenSpec.upto (s : _root_.Go.ChangeSpec) : _root_.Go.OpenSpec := { _root_.Go.OpenSpec.ofChange s with cond := some uptoSmall }

/-- 'augurylaw03.EvalTells', WHERE WHAT IT READS IS OF BULK AT MOST 1048576: true; the input reads as it did. -/
def evalTellsUptoRow : OpenClaim := { program := "ytjhghfndhpaapaa", sum := "04707ee5adffd219adbf10634a1d2dadd055eaffa7dc0a16e8d1d13a1d0803e2", func := "augury/augurylaw03.EvalTells", spec := "evalTells", unfollowed := true, recurses := true, plainKeys := false, apart := false, narrowed := true }
def EvalTellsUptoSaid : Prop := evalTellsUptoRow.holds Try.pinned (OpenSpec.upto evalTellsSpec)

/-- 'augurylaw03.EvalAll', WHERE WHAT IT READS IS OF BULK AT MOST 1048576: true; the input reads as it did. -/
def evalAllUptoRow : OpenClaim := { program := "ytjhghfndhpaapaa", sum := "04707ee5adffd219adbf10634a1d2dadd055eaffa7dc0a16e8d1d13a1d0803e2", func := "augury/augurylaw03.EvalAll", spec := "evalAll", unfollowed := true, recurses := true, plainKeys := false, apart := false, narrowed := true }
def EvalAllUptoSaid : Prop := evalAllUptoRow.holds Try.pinned (OpenSpec.upto evalAllSpec)

/-- 'augurylaw03.EvalHangs', WHERE WHAT IT READS IS OF BULK AT MOST 1048576: true; the input reads as it did. -/
def evalHangsUptoRow : OpenClaim := { program := "ytjhghfndhpaapaa", sum := "04707ee5adffd219adbf10634a1d2dadd055eaffa7dc0a16e8d1d13a1d0803e2", func := "augury/augurylaw03.EvalHangs", spec := "evalHangs", unfollowed := true, recurses := true, plainKeys := false, apart := false, narrowed := true }
def EvalHangsUptoSaid : Prop := evalHangsUptoRow.holds Try.pinned (OpenSpec.upto evalHangsSpec)

/-- 'augurylaw03.EvalNil', WHERE WHAT IT READS IS OF BULK AT MOST 1048576: true; the input reads as it did. -/
def evalNilUptoRow : OpenClaim := { program := "ytjhghfndhpaapaa", sum := "04707ee5adffd219adbf10634a1d2dadd055eaffa7dc0a16e8d1d13a1d0803e2", func := "augury/augurylaw03.EvalNil", spec := "evalNil", unfollowed := true, recurses := true, plainKeys := false, apart := false, narrowed := true }
def EvalNilUptoSaid : Prop := evalNilUptoRow.holds Try.pinned (OpenSpec.upto evalNilSpec)

end Rows
end Go.Proofs.Ytjhghfndhpaapaa
