/-
  Lists of numbers and clauses in memory that was handed in.
-/
import Derived.Test.YtmgkgbhkaoflhaaChecked
import Derived.Deep.LoopGhost
import Derived.BigQuiet
import Derived.Deep.QuietTactic
import Derived.BigGuard
import Derived.IntWalk
import Derived.Lib.Hide
import Derived.Lib.Walk
import Derived.Test.YtmgkgbhkaoflhaaA1
namespace Go.Proofs.Ytmgkgbhkaoflhaa
open Go.RowKit
namespace Cf
set_option maxHeartbeats 400000

def I64 (i : Int) : Prop := -9223372036854775808 ≤ i ∧ i < 9223372036854775808
/-- A list of numbers. -/
def IntsAt (W : World) (al : Option Addr) (T : List Int) : Prop :=
  T = [] ∨ ∃ bl ol, al = some ⟨bl, ol, none⟩ ∧ bl < W.heap.size ∧ ∀ (j : Nat) (v : Int), T[j]? = some v → W.cell? ⟨bl, ol + j, none⟩ = some (.int .i64 v)
theorem IntsAt.keep {W w : World} {al : Option Addr} {T : List Int} (h : IntsAt W al T) (hb : Below W.heap.size W w) : IntsAt w al T := by
  refine h.imp id ?_
  rintro ⟨ab, ao, h1, h2, h3⟩
  exact ⟨ab, ao, h1, Nat.lt_of_lt_of_le h2 hb.size, fun j v hj => (hb.cell (p := ⟨ab, ao + j, none⟩) h2).trans (h3 j v hj)⟩
/-- A list of clauses. -/
def ClsAt (W : World) (al : Option Addr) (C : Cl) : Prop :=
  C = [] ∨ ∃ bl ol, al = some ⟨bl, ol, none⟩ ∧ bl < W.heap.size ∧ ∀ (j : Nat) (k : List Int), C[j]? = some k → ∃ kal kc, W.cell? ⟨bl, ol + j, none⟩ = some (.slice kal k.length kc) ∧ IntsAt W kal k
theorem ClsAt.keep {W w : World} {al : Option Addr} {C : Cl} (h : ClsAt W al C) (hb : Below W.heap.size W w) : ClsAt w al C := by
  refine h.imp id ?_
  rintro ⟨ab, ao, h1, h2, h3⟩
  refine ⟨ab, ao, h1, Nat.lt_of_lt_of_le h2 hb.size, fun j k hj => ?_⟩
  obtain ⟨kal, kc, a, b⟩ := h3 j k hj
  exact ⟨kal, kc, (hb.cell (p := ⟨ab, ao + j, none⟩) h2).trans a, b.keep hb⟩
theorem bcell {W w1 : World} (hb : Below W.heap.size W w1) : (∀ b o, b < W.heap.size → w1.cell? ⟨b, o, none⟩ = W.cell? ⟨b, o, none⟩) ∧ (∀ b o, b < W.heap.size → w1.frozen? ⟨b, o, none⟩ = W.frozen? ⟨b, o, none⟩) :=
  ⟨fun b o h => hb.cell (p := ⟨b, o, none⟩) h, fun b o h => hb.frozen (p := ⟨b, o, none⟩) h⟩
theorem bel_call {W w w' : World} (h : Below W.heap.size W w) (k : Below w.heap.size w w') : Below W.heap.size W w' := h.trans (k.mono h.size)
theorem bel_alloc {W w : World} (h : Below W.heap.size W w) (o : Obj) : Below W.heap.size W (w.alloc o) := h.alloc h.size o
theorem bel_drewN {W w : World} (h : Below W.heap.size W w) (n : Nat) : Below W.heap.size W (w.drewN n) := h.trans ⟨rfl, rfl, rfl, Nat.le_refl _, fun _ _ => rfl⟩
theorem quiet_add_left {P : Program} {f : FuncId} {args : Array Value} {w : World} {a n : Nat} {v : Value}
    (h : Calls P f args (w.drewN (a + n)) fun e w' => e = .returned v ∧ w.drewN (a + n) = w') :
    Calls P f args (w.drewN (a + n)) fun e w'' => e = .returned v ∧ ∃ m, w'' = w.drewN (a + m) :=
  h.mono fun _ _ ⟨he, hm⟩ => ⟨he, n, hm.symm⟩
theorem quiet_left {P : Program} {f : FuncId} {args : Array Value} {w : World} {n : Nat} {v : Value}
    (h : Calls P f args (w.drewN n) fun e w' => e = .returned v ∧ w.drewN n = w') : Calls P f args (w.drewN n) fun e w'' => e = .returned v ∧ ∃ m, w'' = w.drewN m :=
  h.mono fun _ _ ⟨he, hm⟩ => ⟨he, n, hm.symm⟩
structure OkC (C : Cl) : Prop where
  n : C.length < 4611686018427387904
  k : ∀ k ∈ C, k.length < 4611686018427387904
  l : ∀ k ∈ C, ∀ l ∈ k, I64 l
theorem ret_bool {a b : Bool} (h : a = b) : Ending.returned (.bool a) = .returned (.bool b) := by rw [h]
theorem step_i {j : Nat} (h : j < 9223372036854775807) : wrap64 (((j : Nat) : Int) + 1) = (((j + 1 : Nat) : Nat) : Int) ∧ IntKind.i64.wrap (((j : Nat) : Int) + 1) = (((j + 1 : Nat) : Nat) : Int) := by
  have r1 : IntKind.i64.wrap (((j : Nat) : Int) + 1) = (((j + 1 : Nat) : Nat) : Int) := by rw [IntKind.wrap_i64]; omega
  refine ⟨?_, r1⟩
  unfold wrap64
  rw [← IntKind.wrap_i64]; exact r1
theorem neg_i {x : Int} (h1 : -9223372036854775808 < x) (h2 : x < 9223372036854775808) : wrap64 (-x) = -x ∧ IntKind.i64.wrap (-x) = -x := by
  have r1 : IntKind.i64.wrap (-x) = -x := by rw [IntKind.wrap_i64]; omega
  refine ⟨?_, r1⟩
  unfold wrap64
  rw [← IntKind.wrap_i64]; exact r1
end Cf
end Go.Proofs.Ytmgkgbhkaoflhaa
