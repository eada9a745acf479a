/-
  The document's Put, as a fact on one call.
-/
import Derived.Test.YtcpehdeddgfpmaaDoorCfUnits
import Derived.Test.YtcpehdeddgfpmaaDoorCfNum
import Derived.Deep.RegionHeld3
namespace Go.Proofs.YtcpehdeddgfpmaaDoor
open Go.RowKit
namespace Cf
set_option maxHeartbeats 3200000
set_option maxRecDepth 100000

/-- The box of clauses handed in by value. -/
structure BoxAt (b : Nat) (v : Int) (s : Value) (w : World) : Prop where
  lt : b < w.heap.size
  c0 : w.cell? ⟨b, 0, none⟩ = some (.int .i64 v)
  c1 : w.cell? ⟨b, 1, none⟩ = some s
theorem BoxAt.heap {b : Nat} {v : Int} {s : Value} {w w' : World} (h : BoxAt b v s w) (e : w'.heap = w.heap) : BoxAt b v s w' := by
  refine ⟨by rw [e]; exact h.lt, ?_, ?_⟩
  · rw [← h.c0]; unfold World.cell?; rw [e]
  · rw [← h.c1]; unfold World.cell?; rw [e]
theorem BoxAt.call {b : Nat} {v : Int} {s : Value} {w w' : World} (h : BoxAt b v s w) (k : Below w.heap.size w w') : BoxAt b v s w' :=
  ⟨Nat.lt_of_lt_of_le h.lt k.size, (k.cell (p := ⟨b, 0, none⟩) h.lt).trans h.c0, (k.cell (p := ⟨b, 1, none⟩) h.lt).trans h.c1⟩
theorem BoxAt.new {v : Int} {s : Value} {W : World} : BoxAt W.heap.size v s (W.alloc (.cells #[.int .i64 v, s] 25)) := ⟨by simp, new_cell _ _ _ _, new_cell _ _ _ _⟩

def litsB (k : List Int) : By := k.flatMap fun l => decI l ++ [32]
def restB (C : Cl) : By := C.flatMap fun k => clauseB k ++ [10]
theorem restB_cons (k : List Int) (r : Cl) : restB (k :: r) = litsB k ++ [48] ++ [10] ++ restB r := by simp [restB, clauseB, litsB]
theorem litsB_cons (l : Int) (r : List Int) : litsB (l :: r) = decI l ++ [32] ++ litsB r := by simp [litsB]
theorem decI_len {z : Int} (h1 : -9223372036854775808 ≤ z) (h2 : z < 9223372036854775808) : (decI z).length ≤ 21 := by
  rw [decI_sign, List.length_append]
  have := dec_len20 (u := z.natAbs) (by omega)
  have : (signB z).length ≤ 1 := by unfold signB; split <;> simp
  omega
theorem litsB_len : ∀ {k : List Int}, (∀ l ∈ k, I64 l) → (litsB k).length ≤ 22 * k.length
  | [], _ => by simp [litsB]
  | l :: r, h => by
    have ih := litsB_len (k := r) (fun x hx => h x (by simp [hx]))
    have := decI_len (h l (by simp)).1 (h l (by simp)).2
    rw [litsB_cons]
    simp only [List.length_append, List.length_cons, List.length_nil]
    omega
theorem restB_len : ∀ {C : Cl}, (∀ k ∈ C, ∀ l ∈ k, I64 l) → (restB C).length ≤ 2 * C.length + 22 * C.flatten.length
  | [], _ => by simp [restB]
  | k :: r, h => by
    have ih := restB_len (C := r) (fun x hx => h x (by simp [hx]))
    have := litsB_len (h k (by simp))
    rw [restB_cons]
    simp only [List.length_append, List.length_cons, List.length_nil, List.flatten_cons]
    omega
theorem putB_is (v : Int) (C : Cl) : putB v C = [112, 32, 99, 110, 102, 32] ++ decI v ++ [32] ++ decI ((C.length : Nat) : Int) ++ [10] ++ restB C := by simp [putB, headB, restB]

end Cf
end Go.Proofs.YtcpehdeddgfpmaaDoor
