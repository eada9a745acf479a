/-
  A struct of two cells in a block of its own: kept over calls and new blocks.
-/
import Derived.Test.YthelkbdiedfmfaaGreatBvMid
namespace Go.Proofs.YthelkbdiedfmfaaGreat
open Go.RowKit
namespace Bv
/-- Block p holds the cells x and y. -/
def At (w : World) (p : Nat) (x y : Value) : Prop := w.cell? ⟨p, 0, none⟩ = some x ∧ w.cell? ⟨p, 1, none⟩ = some y
theorem At.lt {w : World} {p : Nat} {x y : Value} (h : At w p x y) : p < w.heap.size := World.block_lt_of_cell? w _ h.1
theorem At.keep {w w' : World} {p : Nat} {x y : Value} (h : At w p x y) (hb : Below w.heap.size w w') : At w' p x y :=
  ⟨(hb.cell (p := ⟨p, 0, none⟩) h.lt).trans h.1, (hb.cell (p := ⟨p, 1, none⟩) h.lt).trans h.2⟩
theorem At.alloc {w : World} {p : Nat} {x y : Value} (h : At w p x y) (o : Obj) : At (w.alloc o) p x y :=
  ⟨(World.cell?_alloc_lt w o _ h.lt).trans h.1, (World.cell?_alloc_lt w o _ h.lt).trans h.2⟩
theorem At.new (w : World) (x y : Value) (t : TypeId) : At (w.alloc (.cells #[x, y] t)) w.heap.size x y := by
  constructor <;> simp [go_sem]
theorem At.drew {w : World} {p : Nat} {x y : Value} (h : At w p x y) : At w.drew p x y := h
theorem At.drewN {w : World} {p : Nat} {x y : Value} (h : At w p x y) (n : Nat) : At (w.drewN n) p x y := h
/-- Over a new block and a call. -/
theorem At.go {w w' : World} {p : Nat} {x y : Value} {o : Obj} (h : At w p x y) (hb : Below (w.alloc o).heap.size (w.alloc o) w') : At w' p x y := (h.alloc o).keep hb
theorem At.made {w w' : World} {x y : Value} {t : TypeId} (hb : Below (w.alloc (.cells #[x, y] t)).heap.size (w.alloc (.cells #[x, y] t)) w') : At w' w.heap.size x y := (At.new w x y t).keep hb
theorem bel_go {W w w' : World} {o : Obj} (h : Below W.heap.size W w) (k : Below (w.alloc o).heap.size (w.alloc o) w') : Below W.heap.size W w' := bel_call (bel_alloc h o) k
end Bv
end Go.Proofs.YthelkbdiedfmfaaGreat
