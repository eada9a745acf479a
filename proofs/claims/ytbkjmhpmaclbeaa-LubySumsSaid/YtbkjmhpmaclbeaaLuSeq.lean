/-
  The program's sequence, round by round.
-/
import Derived.Test.YtbkjmhpmaclbeaaLuRange
import Derived.Test.YtbkjmhpmaclbeaaLuWorth
import Derived.Shelf.Abstract
import Derived.Shelf.RegionOpen
import Derived.WalkKit
import Derived.OwnWalkIn
import Derived.TacticsInMore
import Derived.LoopNIn
import Derived.LoopIn
namespace Go.Proofs.Ytbkjmhpmaclbeaa
open Go.RowKit Go.Shelf
namespace Lu
set_option maxHeartbeats 1600000
set_option maxRecDepth 100000

/-- What the k-th round is handed, from 0 on. -/
def seqE (k : Nat) : Array Value := #[.int .i64 ((k : Nat) + 1 : Int), .int .i64 ((lub (k + 1) : Nat) : Int)]
theorem seq_till (n N : Nat) (hn : 1 ≤ n) (hN : N ≤ 2000000) : Till Fence.wide n Try.prog 19 #[] N seqE := by
  intro l J Jx W hJd hY h0
  refine callsIn_of_wp Try.func19 rfl trivial ?_ rfl
  simp only [Try.ntmps19, List.size_toArray, List.length_cons, List.length_nil, Nat.reduceAdd, Nat.reduceSub, Array.replicate_succ, Array.replicate_zero, List.push_toArray, List.append_toArray, List.nil_append, List.cons_append]
  gi_wp2
  gi_loopw [2] (fun v wr => ∃ k : Nat, v = .int .i64 ((k : Nat) + 1 : Int) ∧ k ≤ N ∧ J k wr) (fun v _ => N + 1 - (intOf v).toNat)
  case atStart => exact ⟨0, rfl, Nat.zero_le _, h0⟩
  case round =>
    obtain ⟨k, rfl, hk, hJ⟩ := hrel
    obtain ⟨fn, tmps, assign, body, hy, hR⟩ := hY k wr hk hJ
    unfold seqE at hy
    have HR := Lib.hid hR
    have HWO : Hid (∀ V, Calls Try.prog 14 #[.int .i64 ((k : Nat) + 1 : Int)] V fun e w => e = .returned (.int .i64 ((lub (k + 1) : Nat) : Int)) ∧ V = w) := Lib.hid (fun V => worth_any (n := k + 1) V (by omega) (by omega))
    clear hR hJ
    gi_wp2_with (refine ⟨trivial, ?_⟩; gi_at_call 14; refine (callsIn_wide.2 (HWO.out _)).mono ?_; rintro e w' ⟨rfl, rfl⟩)
    refine HR.out.mono ?_
    rintro e W3 (⟨rfl, hlt, hJ3⟩ | ⟨rfl, hJx3⟩)
    · have HJ := Lib.hid hJ3
      clear hJ3
      gi_wp2
      go_roundw
      case rel => exact ⟨k + 1, by simp, by omega, HJ.out⟩
      case measure => simp [intOf]; omega
    · have HJ := Lib.hid hJx3
      clear hJx3
      gi_wp2
      go_end0
      exact ⟨⟨_, rfl⟩, HJ.out⟩
end Lu
end Go.Proofs.Ytbkjmhpmaclbeaa
