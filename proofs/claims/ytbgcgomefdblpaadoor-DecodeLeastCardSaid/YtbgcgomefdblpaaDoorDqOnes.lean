/-
  The program's piece.ones, walked.
-/
import Derived.Test.YtbgcgomefdblpaaDoorDqEnv
import Derived.Deep.RegionLaw
namespace Go.Proofs.YtbgcgomefdblpaaDoor
open Go.RowKit
namespace De
set_option maxHeartbeats 1600000
set_option maxRecDepth 100000

theorem wones {n : Nat} (h : n ≤ 31) : ((2 : Int) ^ n - 1) % 4294967296 = ((2 ^ n - 1 : Nat) : Int) := by
  have h1 : 2 ^ n < 2 ^ 32 := Nat.pow_lt_pow_right (by decide) (by omega)
  have h2 := Nat.two_pow_pos n
  have e : ((2 : Int) ^ n) = ((2 ^ n : Nat) : Int) := by simp
  rw [e]
  generalize 2 ^ n = x at h1 h2 ⊢
  omega
theorem ones_any {p : Pc} (hp : p.Ok) (W : World) : Calls Tryd.prog 30 #[.agg (pcV p)] W fun e W' => e = .returned (.int .u32 ((2 ^ p.n - 1 : Nat) : Int)) ∧ Below W.heap.size W W' := by
  obtain ⟨a, b, n⟩ := p
  have hn : n ≤ 31 := hp.2.2.1
  have h0 : (0 : Int) ≤ ((n : Nat) : Int) := by omega
  have h1 : ((n : Nat) : Int) ≤ 32 := by omega
  have e2 := Lib.hid (wones hn)
  have HB := Lib.hid (alloc_below W (.cells (pcV ⟨a, b, n⟩) 50))
  clear hp
  unfold pcV at HB ⊢
  go_enter Tryd.func30, Tryd.ntmps30
  go_wp2_with fail
  go_ret
  refine ⟨?_, HB.out⟩
  rw [← e2.out]
  rfl
end De
end Go.Proofs.YtbgcgomefdblpaaDoor
