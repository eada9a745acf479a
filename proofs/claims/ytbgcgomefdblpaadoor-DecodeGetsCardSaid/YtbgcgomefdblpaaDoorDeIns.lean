/-
  An instruction in memory.
-/
import Derived.Test.YtbgcgomefdblpaaDoorDeGetB
import Derived.Test.YtbgcgomefdblpaaDoorDeEql
namespace Go.Proofs.YtbgcgomefdblpaaDoor
open Go.RowKit
namespace De
set_option maxHeartbeats 1600000
set_option maxRecDepth 100000

/-- An instruction in memory. -/
structure InsAt (w : World) (b : Nat) (x : Ins) : Prop where
  i0 : w.cell? ⟨b, 0, none⟩ = some (.int .u8 ((x.op : Nat) : Int))
  i1 : w.cell? ⟨b, 1, none⟩ = some (.int .u8 ((x.rd : Nat) : Int))
  i2 : w.cell? ⟨b, 2, none⟩ = some (.int .u8 ((x.a : Nat) : Int))
  i3 : w.cell? ⟨b, 3, none⟩ = some (.int .u8 ((x.b : Nat) : Int))
  i4 : w.cell? ⟨b, 4, none⟩ = some (.int .i32 x.imm)
  i5 : w.cell? ⟨b, 5, none⟩ = some (.int .u16 ((x.csr : Nat) : Int))
  lt : b < w.heap.size
theorem InsAt.below {w w' : World} {b : Nat} {x : Ins} (h : InsAt w b x) (hb : Below w.heap.size w w') : InsAt w' b x := by
  have k := fun (j : Nat) => hb.cell (p := ⟨b, j, none⟩) h.lt
  exact ⟨(k _).trans h.i0, (k _).trans h.i1, (k _).trans h.i2, (k _).trans h.i3, (k _).trans h.i4, (k _).trans h.i5, Nat.lt_of_lt_of_le h.lt hb.size⟩
theorem InsAt.new (w : World) (x : Ins) (t : TypeId) : InsAt (w.alloc (.cells (insV x) t)) w.heap.size x := by
  refine ⟨?_, ?_, ?_, ?_, ?_, ?_, by simp⟩ <;> (rw [new_cell]; rfl)
theorem alloc_below (w : World) (o : Obj) : Below w.heap.size w (w.alloc o) := (Below.refl _ _).alloc (Nat.le_refl _) o
/-- On from W. -/
theorem on {W w w' : World} (h : Below W.heap.size W w) (hb : Below w.heap.size w w') : Below W.heap.size W w' := h.trans (hb.mono h.size)
end De
end Go.Proofs.YtbgcgomefdblpaaDoor
