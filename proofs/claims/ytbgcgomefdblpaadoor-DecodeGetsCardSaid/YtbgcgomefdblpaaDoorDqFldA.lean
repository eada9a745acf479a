/-
  What a word has of what a form has: what the program's fields has made, ahead of what it reads.
-/
import Derived.Test.YtbgcgomefdblpaaDoorDqNumA
import Derived.Laws.NewFold
namespace Go.Proofs.YtbgcgomefdblpaaDoor
open Go.RowKit
namespace De
set_option maxHeartbeats 6400000
set_option maxRecDepth 100000

theorem build_imm (n : Int) (w : World) : (Instr.build 26 #[(4, .int .i32 n)]).run Tryd.prog w = .ok (.agg #[.int .u8 0, .int .u8 0, .int .u8 0, .int .u8 0, .int .i32 n, .int .u16 0]) w := run_build w _ _ _ (by kernel_rfl)
theorem and31 {x : Nat} (h : x < 4294967296) : bits .and .u32 ((x : Nat) : Int) 31 = ((x % 32 : Nat) : Int) := by
  have := u32_and_nat x 31 h (by decide)
  rw [nat_mask5] at this
  exact this
theorem frozen_alloc (w : World) (c : Array Value) (t : TypeId) (j : Nat) : (w.alloc (.cells c t)).frozen? ⟨w.heap.size, j, none⟩ = false := by
  simp only [frozen?_alloc_cells]
  unfold World.frozen?
  rw [show w.heap[(⟨w.heap.size, j, none⟩ : Addr).block]? = none from by simp]
theorem frozen_below {w w' : World} {b : Nat} (hb : Below w.heap.size w w') (h : b < w.heap.size) (j : Nat) : w'.frozen? ⟨b, j, none⟩ = w.frozen? ⟨b, j, none⟩ := by
  unfold World.frozen?
  rw [show w'.heap[(⟨b, j, none⟩ : Addr).block]? = w.heap[(⟨b, j, none⟩ : Addr).block]? from hb.block b h]
/-- What fields has made. -/
structure FdAt (W w : World) (h bx : Nat) (n : Int) : Prop where
  hc : w.cell? ⟨W.heap.size, 1, none⟩ = some (.int .u8 ((h : Nat) : Int))
  x0 : w.cell? ⟨bx, 0, none⟩ = some (.int .u8 0)
  x1 : w.cell? ⟨bx, 1, none⟩ = some (.int .u8 0)
  x2 : w.cell? ⟨bx, 2, none⟩ = some (.int .u8 0)
  x3 : w.cell? ⟨bx, 3, none⟩ = some (.int .u8 0)
  x4 : w.cell? ⟨bx, 4, none⟩ = some (.int .i32 n)
  x5 : w.cell? ⟨bx, 5, none⟩ = some (.int .u16 0)
  y0 : w.cell? ⟨W.heap.size + 1, 0, none⟩ = some (.int .u8 0)
  y1 : w.cell? ⟨W.heap.size + 1, 1, none⟩ = some (.int .u8 0)
  y2 : w.cell? ⟨W.heap.size + 1, 2, none⟩ = some (.int .u8 0)
  y3 : w.cell? ⟨W.heap.size + 1, 3, none⟩ = some (.int .u8 0)
  y4 : w.cell? ⟨W.heap.size + 1, 4, none⟩ = some (.int .i32 0)
  y5 : w.cell? ⟨W.heap.size + 1, 5, none⟩ = some (.int .u16 0)
  fx : ∀ j, w.frozen? ⟨bx, j, none⟩ = false
  fy : ∀ j, w.frozen? ⟨W.heap.size + 1, j, none⟩ = false
  lo : W.heap.size + 1 < bx
  b : Below W.heap.size W w
theorem FdAt.new {W w1 : World} (f : Fm) (t1 t2 t3 : TypeId) (n : Int) (hb : Below ((W.alloc (.cells (fmV f) t1)).alloc (.cells #[.int .u8 0, .int .u8 0, .int .u8 0, .int .u8 0, .int .i32 0, .int .u16 0] t2)).heap.size ((W.alloc (.cells (fmV f) t1)).alloc (.cells #[.int .u8 0, .int .u8 0, .int .u8 0, .int .u8 0, .int .i32 0, .int .u16 0] t2)) w1) :
    FdAt W (w1.alloc (.cells #[.int .u8 0, .int .u8 0, .int .u8 0, .int .u8 0, .int .i32 n, .int .u16 0] t3)) f.has w1.heap.size n := by
  have s0 : (W.alloc (.cells (fmV f) t1)).heap.size = W.heap.size + 1 := by simp
  have h0 : Below W.heap.size W ((W.alloc (.cells (fmV f) t1)).alloc (.cells #[.int .u8 0, .int .u8 0, .int .u8 0, .int .u8 0, .int .i32 0, .int .u16 0] t2)) := on (alloc_below W _) (alloc_below _ _)
  have y := fun j => new_cell (W.alloc (.cells (fmV f) t1)) #[.int .u8 0, .int .u8 0, .int .u8 0, .int .u8 0, .int .i32 0, .int .u16 0] t2 j
  have fy := fun j => frozen_alloc (W.alloc (.cells (fmV f) t1)) #[.int .u8 0, .int .u8 0, .int .u8 0, .int .u8 0, .int .i32 0, .int .u16 0] t2 j
  have hc : ((W.alloc (.cells (fmV f) t1)).alloc (.cells #[.int .u8 0, .int .u8 0, .int .u8 0, .int .u8 0, .int .i32 0, .int .u16 0] t2)).cell? ⟨W.heap.size, 1, none⟩ = some (.int .u8 ((f.has : Nat) : Int)) := by
    rw [alloc_old _ _ _ (by rw [s0]; omega), new_cell]; rfl
  have s1 : ((W.alloc (.cells (fmV f) t1)).alloc (.cells #[.int .u8 0, .int .u8 0, .int .u8 0, .int .u8 0, .int .i32 0, .int .u16 0] t2)).heap.size = W.heap.size + 1 + 1 := by simp
  rw [s0] at y fy
  generalize ((W.alloc (.cells (fmV f) t1)).alloc (.cells #[.int .u8 0, .int .u8 0, .int .u8 0, .int .u8 0, .int .i32 0, .int .u16 0] t2)) = w0 at *
  have hb2 := on hb (alloc_below w1 (.cells #[.int .u8 0, .int .u8 0, .int .u8 0, .int .u8 0, .int .i32 n, .int .u16 0] t3))
  have hl := hb.size
  have k := fun j => (hb2.cell (p := ⟨W.heap.size + 1, j, none⟩) (by show W.heap.size + 1 < w0.heap.size; omega)).trans (y j)
  refine ⟨(hb2.cell (p := ⟨W.heap.size, 1, none⟩) (by show W.heap.size < w0.heap.size; omega)).trans hc, by rw [new_cell]; rfl, by rw [new_cell]; rfl, by rw [new_cell]; rfl, by rw [new_cell]; rfl, by rw [new_cell]; rfl, by rw [new_cell]; rfl, k 0, k 1, k 2, k 3, k 4, k 5, fun j => frozen_alloc _ _ _ j, fun j => (frozen_below hb2 (by omega) j).trans (fy j), by omega, on h0 hb2⟩
/-- What fields and instr hand back, by their result's cells. -/
theorem fields_out {tmps : Array Value} {w : World} {b : Nat} {v0 v1 v2 v3 v4 v5 : Value} (h : tmps.getD 4 undef = .pointer (some ⟨b, 0, none⟩)) (c0 : w.cell? ⟨b, 0, none⟩ = some v0) (c1 : w.cell? ⟨b, 1, none⟩ = some v1) (c2 : w.cell? ⟨b, 2, none⟩ = some v2) (c3 : w.cell? ⟨b, 3, none⟩ = some v3) (c4 : w.cell? ⟨b, 4, none⟩ = some v4) (c5 : w.cell? ⟨b, 5, none⟩ = some v5) :
    (results Tryd.f22 tmps).run Tryd.prog w = .ok (.agg #[v0, v1, v2, v3, v4, v5]) w := by
  have h : tmps[4]?.getD undef = .pointer (some ⟨b, 0, none⟩) := by simpa using h
  simp [results, Tryd.results22, go_sem, h, c0, c1, c2, c3, c4, c5]
theorem instr_out {tmps : Array Value} {w : World} {b : Nat} {v0 v1 v2 v3 v4 v5 : Value} (h : tmps.getD 4 undef = .pointer (some ⟨b, 0, none⟩)) (c0 : w.cell? ⟨b, 0, none⟩ = some v0) (c1 : w.cell? ⟨b, 1, none⟩ = some v1) (c2 : w.cell? ⟨b, 2, none⟩ = some v2) (c3 : w.cell? ⟨b, 3, none⟩ = some v3) (c4 : w.cell? ⟨b, 4, none⟩ = some v4) (c5 : w.cell? ⟨b, 5, none⟩ = some v5) :
    (results Tryd.f15 tmps).run Tryd.prog w = .ok (.agg #[v0, v1, v2, v3, v4, v5]) w := by
  have h : tmps[4]?.getD undef = .pointer (some ⟨b, 0, none⟩) := by simpa using h
  simp [results, Tryd.results15, go_sem, h, c0, c1, c2, c3, c4, c5]
end De
end Go.Proofs.YtbgcgomefdblpaaDoor
