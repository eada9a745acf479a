/-
  The instruction that a row of the program's reads a word as: what instr has made, ahead of what it reads.
-/
import Derived.Test.YtbgcgomefdblpaaDoorDqRow
namespace Go.Proofs.YtbgcgomefdblpaaDoor
open Go.RowKit
namespace De
set_option maxHeartbeats 3200000
set_option maxRecDepth 100000

theorem env_form {w : World} (hE : EnvAt w) {k : Nat} (hk : k ≤ 12) :
    w.cell? ⟨2, k * 15, none⟩ = some (.int .u32 (((fmQ k).fixed : Nat) : Int)) ∧
    w.cell? ⟨2, k * 15 + 1, none⟩ = some (.int .u8 (((fmQ k).has : Nat) : Int)) ∧
    w.cell? ⟨2, k * 15 + 2, none⟩ = some (.int .u8 (((fmQ k).spare : Nat) : Int)) ∧
    w.cell? ⟨2, k * 15 + 3, none⟩ = some (.int .u8 (((fmQ k).p0.a : Nat) : Int)) ∧
    w.cell? ⟨2, k * 15 + 4, none⟩ = some (.int .u8 (((fmQ k).p0.b : Nat) : Int)) ∧
    w.cell? ⟨2, k * 15 + 5, none⟩ = some (.int .u8 (((fmQ k).p0.n : Nat) : Int)) ∧
    w.cell? ⟨2, k * 15 + 6, none⟩ = some (.int .u8 (((fmQ k).p1.a : Nat) : Int)) ∧
    w.cell? ⟨2, k * 15 + 7, none⟩ = some (.int .u8 (((fmQ k).p1.b : Nat) : Int)) ∧
    w.cell? ⟨2, k * 15 + 8, none⟩ = some (.int .u8 (((fmQ k).p1.n : Nat) : Int)) ∧
    w.cell? ⟨2, k * 15 + 9, none⟩ = some (.int .u8 (((fmQ k).p2.a : Nat) : Int)) ∧
    w.cell? ⟨2, k * 15 + 10, none⟩ = some (.int .u8 (((fmQ k).p2.b : Nat) : Int)) ∧
    w.cell? ⟨2, k * 15 + 11, none⟩ = some (.int .u8 (((fmQ k).p2.n : Nat) : Int)) ∧
    w.cell? ⟨2, k * 15 + 12, none⟩ = some (.int .u8 (((fmQ k).p3.a : Nat) : Int)) ∧
    w.cell? ⟨2, k * 15 + 13, none⟩ = some (.int .u8 (((fmQ k).p3.b : Nat) : Int)) ∧
    w.cell? ⟨2, k * 15 + 14, none⟩ = some (.int .u8 (((fmQ k).p3.n : Nat) : Int)) :=
  have h := hE.forms k _ (fmQ_get k hk)
  ⟨h 0 _ rfl, h 1 _ rfl, h 2 _ rfl, h 3 _ rfl, h 4 _ rfl, h 5 _ rfl, h 6 _ rfl, h 7 _ rfl, h 8 _ rfl, h 9 _ rfl, h 10 _ rfl, h 11 _ rfl, h 12 _ rfl, h 13 _ rfl, h 14 _ rfl⟩
/-- What instr has made. -/
structure RiAt (W w : World) (q : Qr) (bx : Nat) (i : Ins) : Prop where
  q : QrAt w W.heap.size q
  x : InsAt w bx i
  y0 : w.cell? ⟨W.heap.size + 1, 0, none⟩ = some (.int .u8 0)
  y1 : w.cell? ⟨W.heap.size + 1, 1, none⟩ = some (.int .u8 0)
  y2 : w.cell? ⟨W.heap.size + 1, 2, none⟩ = some (.int .u8 0)
  y3 : w.cell? ⟨W.heap.size + 1, 3, none⟩ = some (.int .u8 0)
  y4 : w.cell? ⟨W.heap.size + 1, 4, none⟩ = some (.int .i32 0)
  y5 : w.cell? ⟨W.heap.size + 1, 5, none⟩ = some (.int .u16 0)
  fx : ∀ j, w.frozen? ⟨bx, j, none⟩ = false
  fy : ∀ j, w.frozen? ⟨W.heap.size + 1, j, none⟩ = false
  lo : W.heap.size + 1 < bx
  bw : Below W.heap.size W w
theorem RiAt.on {W w w' : World} {q : Qr} {bx : Nat} {i : Ins} (h : RiAt W w q bx i) (hb : Below w.heap.size w w') : RiAt W w' q bx i := by
  have hl := h.x.lt
  have h2 := h.lo
  have k := fun (j : Nat) => hb.cell (p := ⟨W.heap.size + 1, j, none⟩) (by show W.heap.size + 1 < w.heap.size; omega)
  exact ⟨h.q.below hb, h.x.below hb, (k _).trans h.y0, (k _).trans h.y1, (k _).trans h.y2, (k _).trans h.y3, (k _).trans h.y4, (k _).trans h.y5, fun j => (frozen_below hb hl j).trans (h.fx j), fun j => (frozen_below hb (by omega) j).trans (h.fy j), h2, De.on h.bw hb⟩
theorem RiAt.drew {W w : World} {q : Qr} {bx : Nat} {i : Ins} (h : RiAt W w q bx i) : RiAt W w.drew q bx i := h.on (below_drewN (Below.refl _ w) 1)
theorem RiAt.new {W w1 : World} (q : Qr) (t1 t2 t3 : TypeId) (i : Ins) (hb : Below ((W.alloc (.cells (qrV q) t1)).alloc (.cells #[.int .u8 0, .int .u8 0, .int .u8 0, .int .u8 0, .int .i32 0, .int .u16 0] t2)).heap.size ((W.alloc (.cells (qrV q) t1)).alloc (.cells #[.int .u8 0, .int .u8 0, .int .u8 0, .int .u8 0, .int .i32 0, .int .u16 0] t2)) w1) :
    RiAt W (w1.alloc (.cells (insV i) t3)) q w1.heap.size i := by
  have s0 : (W.alloc (.cells (qrV q) t1)).heap.size = W.heap.size + 1 := by simp
  have h0 : Below W.heap.size W ((W.alloc (.cells (qrV q) t1)).alloc (.cells #[.int .u8 0, .int .u8 0, .int .u8 0, .int .u8 0, .int .i32 0, .int .u16 0] t2)) := De.on (alloc_below W _) (alloc_below _ _)
  have y := fun j => new_cell (W.alloc (.cells (qrV q) t1)) #[.int .u8 0, .int .u8 0, .int .u8 0, .int .u8 0, .int .i32 0, .int .u16 0] t2 j
  have fy := fun j => frozen_alloc (W.alloc (.cells (qrV q) t1)) #[.int .u8 0, .int .u8 0, .int .u8 0, .int .u8 0, .int .i32 0, .int .u16 0] t2 j
  have hq := (QrAt.new W q t1).below (alloc_below (W.alloc (.cells (qrV q) t1)) (.cells #[.int .u8 0, .int .u8 0, .int .u8 0, .int .u8 0, .int .i32 0, .int .u16 0] t2))
  have s1 : ((W.alloc (.cells (qrV q) t1)).alloc (.cells #[.int .u8 0, .int .u8 0, .int .u8 0, .int .u8 0, .int .i32 0, .int .u16 0] t2)).heap.size = W.heap.size + 1 + 1 := by simp
  rw [s0] at y fy
  generalize ((W.alloc (.cells (qrV q) t1)).alloc (.cells #[.int .u8 0, .int .u8 0, .int .u8 0, .int .u8 0, .int .i32 0, .int .u16 0] t2)) = w0 at *
  have hb2 := De.on hb (alloc_below w1 (.cells (insV i) t3))
  have hl := hb.size
  have k := fun j => (hb2.cell (p := ⟨W.heap.size + 1, j, none⟩) (by show W.heap.size + 1 < w0.heap.size; omega)).trans (y j)
  exact ⟨hq.below hb2, InsAt.new w1 i t3, k 0, k 1, k 2, k 3, k 4, k 5, fun j => frozen_alloc _ _ _ j, fun j => (frozen_below hb2 (by omega) j).trans (fy j), by omega, De.on h0 hb2⟩
end De
end Go.Proofs.YtbgcgomefdblpaaDoor
