/-
  What the reference's quotient and rest by worths return where the second is 0.
-/
import Derived.Test.YtiogadjjacbjlaaBvSgH
import Derived.Deep.RegionHeld3
namespace Go.Proofs.Ytiogadjjacbjlaa
open Go.RowKit
namespace Bv
set_option maxHeartbeats 2000000
set_option maxRecDepth 100000

theorem rsigned_0 (w n v : Nat) (hw : w ≤ 64) (W : World) :
    Calls Try.prog 29 #[.agg #[.int .u8 w, .int .u64 n], .agg #[.int .u8 v, .int .u64 0]] W fun e W' => e = .returned (.tuple #[.agg #[.int .u8 w, .int .u64 (low w 18446744073709551615 : Nat)], .agg #[.int .u8 w, .int .u64 n]]) ∧ Below W.heap.size W W' := by
  go_enter Try.func29, Try.ntmps29
  go_wp2_with fail
  go_region_with (first | (go_at_call 23; refine (rcut_exact w hw 18446744073709551615 (by decide) _).mono ?_; rintro e wx ⟨rfl, rfl⟩))
  all_goals go_wp2_with fail
  all_goals
    refine bodyPost_ret (v := .tuple #[.agg #[.int .u8 w, .int .u64 (low w 18446744073709551615 : Nat)], .agg #[.int .u8 w, .int .u64 n]]) (by simp [results, Try.results29, go_sem]) rfl ⟨rfl, ?_⟩
    repeat (first | (with_reducible exact Below.refl _ _) | (with_reducible refine Below.drew ?_) | (with_reducible refine bel_alloc ?_ _) | (with_reducible refine Below.setCell ?_ (by first | (simp; done) | (simp; omega) | omega) _))
end Bv
end Go.Proofs.Ytiogadjjacbjlaa
