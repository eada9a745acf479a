/-
  The document's heap: Pop, what it answers.
-/
import Derived.Test.YtdajnmlpghgeeaaHpRefC
namespace Go.Proofs.Ytdajnmlpghgeeaa
open Go.RowKit
namespace Hp
set_option maxHeartbeats 1600000
set_option maxRecDepth 100000

def inP (I : List Bool) (v : Nat) : Bool := (I[v]?).getD false
def scP (S : List Nat) (v : Nat) : Nat := (S[v]?).getD 0
/-- The greatest one of those below k. -/
def bestP (S : List Nat) (I : List Bool) : Nat → Nat
  | 0 => 0
  | k + 1 => if k = 0 then 0 else if inP I k && (bestP S I k == 0 || aboveF (scP S k) (scP S (bestP S I k))) then k else bestP S I k
theorem best_lt (S : List Nat) (I : List Bool) : ∀ k, 1 ≤ k → bestP S I k < k
  | 0, h => by omega
  | k + 1, _ => by
    unfold bestP
    by_cases h0 : k = 0
    · rw [if_pos h0]; omega
    · rw [if_neg h0]
      have := best_lt S I k (by omega)
      split <;> omega
def PopE (W : World) (p sb ib : Nat) (S : List Nat) (I : List Bool) (e : Ending) (w : World) : Prop :=
  if bestP S I S.length = 0 then e = .returned (.tuple #[.int .i64 0, .int .i64 6]) ∧ RHp w p sb ib S I ∧ Only [sb, ib] W w
  else e = .returned (.tuple #[.int .i64 ((bestP S I S.length : Nat) : Int), .int .i64 0]) ∧ RHp w p sb ib S (I.set (bestP S I S.length) false) ∧ Only [sb, ib] W w
end Hp
end Go.Proofs.Ytdajnmlpghgeeaa
