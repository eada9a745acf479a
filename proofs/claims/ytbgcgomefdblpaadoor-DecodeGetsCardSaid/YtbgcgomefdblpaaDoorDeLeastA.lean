/-
  What the document's least stands on.
-/
import Derived.Test.YtbgcgomefdblpaaDoorDeReadA
namespace Go.Proofs.YtbgcgomefdblpaaDoor
open Go.RowKit
namespace De
set_option maxHeartbeats 1600000
set_option maxRecDepth 100000

theorem wu32 {x : Nat} (h : x < 4294967296) : IntKind.u32.wrap ((x : Nat) : Int) = ((x : Nat) : Int) := by rw [IntKind.wrap_u32]; omega
theorem wimm {z : Int} (_h1 : -2147483648 ≤ z) (_h2 : z < 2147483648) : IntKind.u32.wrap z = ((u32 z : Nat) : Int) := by
  rw [IntKind.wrap_u32]; unfold u32; omega
theorem good_parts {r : Row} (h : good r = true) : r.f3 < 8 ∧ r.f7 < 128 ∧ (r.fm ≠ 88 → r.code < 128) ∧ (r.fm = 65 → r.f7 < 32) ∧ r.code < 4294967296 ∧ (r.fm = 85 ∨ r.fm = 74 → r.f3 = 0) := by
  unfold good at h
  simp only [Bool.and_eq_true, decide_eq_true_eq] at h
  obtain ⟨⟨⟨⟨⟨⟨⟨g1, g2⟩, _⟩, _⟩, g5⟩, g6⟩, gz⟩, _⟩ := h
  by_cases c : r.fm = 88
  · rw [if_pos c] at g5
    exact ⟨g1, g2, fun h => absurd c h, g6, (of_decide_eq_true g5).1, gz⟩
  · rw [if_neg c] at g5
    have := of_decide_eq_true g5
    exact ⟨g1, g2, fun _ => this, g6, by omega, gz⟩
/-- What least has boxed. -/
structure LsAt (W w : World) (r : Row) (s : ByteArray) (i : Ins) : Prop where
  row : RowAt w W.heap.size r s
  i1 : w.cell? ⟨W.heap.size + 1, 1, none⟩ = some (.int .u8 ((i.rd : Nat) : Int))
  i2 : w.cell? ⟨W.heap.size + 1, 2, none⟩ = some (.int .u8 ((i.a : Nat) : Int))
  i3 : w.cell? ⟨W.heap.size + 1, 3, none⟩ = some (.int .u8 ((i.b : Nat) : Int))
  i4 : w.cell? ⟨W.heap.size + 1, 4, none⟩ = some (.int .i32 i.imm)
  i5 : w.cell? ⟨W.heap.size + 1, 5, none⟩ = some (.int .u16 ((i.csr : Nat) : Int))
  b : Below W.heap.size W w
theorem LsAt.drewN {W w : World} {r : Row} {s : ByteArray} {i : Ins} (h : LsAt W w r s i) (n : Nat) : LsAt W (w.drewN n) r s i :=
  ⟨h.row.drewN n, by simpa using h.i1, by simpa using h.i2, by simpa using h.i3, by simpa using h.i4, by simpa using h.i5, below_drewN h.b n⟩
theorem LsAt.new (W : World) (r : Row) (s : ByteArray) (i : Ins) (t1 t2 : TypeId) : LsAt W ((W.alloc (.cells (rowV r s) t1)).alloc (.cells (insV i) t2)) r s i := by
  have e1 : ∀ c t, (W.alloc (.cells c t)).heap.size = W.heap.size + 1 := fun c t => by simp
  have hx : ∀ c1 c2 t1 t2 j, ((W.alloc (.cells c1 t1)).alloc (.cells c2 t2)).cell? ⟨W.heap.size + 1, j, none⟩ = c2[j]? := fun c1 c2 t1 t2 j => by
    have := new_cell (W.alloc (.cells c1 t1)) c2 t2 j
    rw [e1] at this; exact this
  have hr : ∀ c1 c2 t1 t2 j, ((W.alloc (.cells c1 t1)).alloc (.cells c2 t2)).cell? ⟨W.heap.size, j, none⟩ = c1[j]? := fun c1 c2 t1 t2 j => by
    rw [alloc_old _ _ _ (by rw [e1]; omega)]
    exact new_cell W c1 t1 j
  refine ⟨⟨?_, ?_, ?_, ?_, ?_⟩, ?_, ?_, ?_, ?_, ?_, ((Below.refl _ _).alloc (Nat.le_refl _) _).alloc (by simp) _⟩
  all_goals first | (rw [hr]; rfl) | (rw [hx]; rfl)
end De
end Go.Proofs.YtbgcgomefdblpaaDoor
