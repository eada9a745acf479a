/-
  What the reference's quotient and rest by worths return.
-/
import Derived.Test.YtiogadjjacbjlaaBvOwn
import Derived.Deep.RegionHeld3
namespace Go.Proofs.Ytiogadjjacbjlaa
open Go.RowKit
namespace Bv
set_option maxHeartbeats 12000000
set_option maxRecDepth 100000

theorem rcut_exact (w : Nat) (h2 : w ≤ 64) (n : Nat) (hn : n < 18446744073709551616) (W : World) :
    Calls Try.prog 23 #[.int .u8 w, .int .u64 n] W fun e W' => e = .returned (.agg #[.int .u8 w, .int .u64 ((low w n : Nat) : Int)]) ∧ W' = W.alloc (.cells #[.int .u8 w, .int .u64 ((low w n : Nat) : Int)] 25) := by
  go_enter Try.func23, Try.ntmps23
  go_wp2_with (go_at_call 36; refine (rmask_any _ h2 _).mono ?_; rintro e w' ⟨rfl, rfl⟩)
  have e := and64 (n : Int) (by omega) (by omega) h2
  rw [Int.toNat_natCast] at e
  exact bodyPost_ret (v := .agg #[.int .u8 w, .int .u64 ((low w n : Nat) : Int)]) (by simp [results, Try.results23, go_sem, e]) rfl ⟨rfl, by rw [e]⟩
theorem cell_keep2 {w w' : World} {a : Addr} {x : Value} (hb : Below w.heap.size w w') (h : w.cell? a = some x) : w'.cell? a = some x := (hb.cell (World.block_lt_of_cell? w a h)).trans h
theorem cell_drew {w : World} {a : Addr} {x : Value} (h : w.cell? a = some x) : w.drew.cell? a = some x := h
theorem new_lt {w w' : World} {o : Obj} (h : Below (w.alloc o).heap.size (w.alloc o) w') : w.heap.size < w'.heap.size := by have := h.size; simp at this; omega
theorem new_lt2 {w w' : World} {o o' : Obj} (h : Below ((w.alloc o).alloc o').heap.size ((w.alloc o).alloc o') w') : w.heap.size < w'.heap.size := by have := h.size; simp at this; omega

end Bv
end Go.Proofs.Ytiogadjjacbjlaa
