/-
  LubyPowers, walked over Api.
-/
import Derived.Test.YtbkjmhpmaclbeaaLuLaws
namespace Go.Proofs.Ytbkjmhpmaclbeaa
open Go.RowKit
namespace Lu
set_option maxHeartbeats 3200000
set_option maxRecDepth 100000

theorem and_pred {x : Nat} (h1 : 1 ≤ x) (h2 : x ≤ 4611686018427387904) (h : x &&& (x - 1) = 0) : bits .and .i64 ((x : Nat) : Int) (((x : Nat) : Int) - 1) = 0 := by
  unfold bits
  simp only []
  have e1 : BitVec.ofInt IntKind.i64.bits ((x : Nat) : Int) = BitVec.ofNat 64 x := rfl
  have e2 : BitVec.ofInt IntKind.i64.bits (((x : Nat) : Int) - 1) = BitVec.ofNat 64 (x - 1) := by
    rw [show (((x : Nat) : Int) - 1) = ((x - 1 : Nat) : Int) by omega]; rfl
  rw [e1, e2]
  have e3 : (BitVec.ofNat 64 x &&& BitVec.ofNat 64 (x - 1)).toNat = 0 := by
    rw [BitVec.toNat_and, BitVec.toNat_ofNat, BitVec.toNat_ofNat, Nat.mod_eq_of_lt (by omega), Nat.mod_eq_of_lt (by omega), h]
  exact congrArg (fun n : Nat => IntKind.i64.wrap ((n : Nat) : Int)) e3
theorem powers_any (A : Api) {n k : Nat} (hn : n < 4294967296) (hk : k < 256) (W : World) : Calls Try.prog 6 #[.int .u32 ((n : Nat) : Int), .int .u8 ((k : Nat) : Int)] W fun e w => e = .returned (.bool true) ∧ Below W.heap.size W w := by
  have HA := Lib.hid A
  have H1 := Lib.hid (fun w => A.yes (n + 1) w (by omega) (by omega))
  have hl := lub_le (n := n + 1) (by omega)
  have hp := lub_pos (n := n + 1) (by omega)
  have ha := lub_and (n := n + 1) (by omega)
  obtain ⟨x, hx⟩ : ∃ x, x = lub (n + 1) := ⟨_, rfl⟩
  rw [← hx] at H1 hl hp ha
  have hand := and_pred hp (by omega) ha
  have hx1 : decide (((x : Nat) : Int) < 1) = false := decide_eq_false (by omega)
  have hx2 : decide ((((n : Nat) : Int) + 2) / 2 < ((x : Nat) : Int)) = false := decide_eq_false (by omega)
  have n0 : (0 : Int) ≤ ((n : Nat) : Int) := by omega
  have n1 : ((n : Nat) : Int) < 4294967296 := by omega
  have k0 : (0 : Int) ≤ ((k : Nat) : Int) := by omega
  have k1 : ((k : Nat) : Int) < 256 := by omega
  obtain ⟨j, hj⟩ : ∃ j, j = k % 20 := ⟨_, rfl⟩
  have kk : ((k : Nat) : Int) % 20 = ((j : Nat) : Int) := by omega
  have j0 : (0 : Int) ≤ ((j : Nat) : Int) := by omega
  have j1 : j < 20 := by omega
  obtain ⟨t, ht⟩ : ∃ t, t = tw (2 + j) := ⟨_, rfl⟩
  have t0 : 4 ≤ t := by
    rw [ht]; unfold tw
    exact Nat.pow_le_pow_right (n := 2) (by omega) (show 2 ≤ 2 + j by omega)
  have t1 : t ≤ 2097152 := by
    rw [ht]; unfold tw
    exact Nat.pow_le_pow_right (n := 2) (by omega) (show 2 + j ≤ 21 by omega)
  have hsh : Op.shift .shl .i64 1 .u64 (2 + ((j : Nat) : Int)) = pure (.int .i64 ((t : Nat) : Int)) := by
    rw [shift_shl .i64 .u64 1 _ (by omega) (by show _ ≤ (64 : Int); omega)]
    rw [show (2 + ((j : Nat) : Int)).toNat = 2 + j by omega, Int.one_mul]
    rw [show (2 : Int) ^ (2 + j) = ((t : Nat) : Int) by rw [ht]; unfold tw; rw [Int.natCast_pow]; rfl]
    rw [IntWalk.i64_in _ (by omega)]
  obtain ⟨q, hq⟩ : ∃ q, q = n % (t - 2) := ⟨_, rfl⟩
  have qq : ((n : Nat) : Int) % (((t : Nat) : Int) - 1 - 1) = ((q : Nat) : Int) := by
    rw [hq, show ((t : Nat) : Int) - 1 - 1 = ((t - 2 : Nat) : Int) by omega]; rfl
  have q1 : q < t - 2 := by rw [hq]; exact Nat.mod_lt _ (by omega)
  have HAG : Hid (lub (t - 1 + (1 + q)) = lub (1 + q)) := Lib.hid (by
    rw [ht] at q1 ⊢
    exact lub_again (by omega) (by unfold tw at q1; omega))
  have H2 := Lib.hid (fun w => A.yes (1 + q) w (by omega) (by omega))
  have H3 := Lib.hid (fun w => A.yes (t - 1 + (1 + q)) w (by omega) (by omega))
  rw [HAG.out, show ((t - 1 + (1 + q) : Nat) : Int) = ((t : Nat) : Int) - 1 + (1 + ((q : Nat) : Int)) by omega] at H3
  generalize lub (1 + q) = z at H2 H3
  clear A hx ha hj ht hq HAG
  go_enter Try.func6, Try.ntmps6
  go_wp2_with fail
  refine (H1.out _).mono ?_
  rintro e w1 ⟨rfl, hb⟩
  have HB1 := Lib.hid hb
  clear hb
  go_wp2_with fail
  refine (H2.out _).mono ?_
  rintro e w2 ⟨rfl, hb⟩
  have HB2 := Lib.hid (bel_c HB1.out hb)
  clear hb
  go_wp2_with fail
  refine (H3.out _).mono ?_
  rintro e w3 ⟨rfl, hb⟩
  have HB3 := Lib.hid (bel_c HB2.out hb)
  clear hb
  go_wp2_with fail
  refine (lives_any HA.out _).mono ?_
  rintro e w9 ⟨rfl, hb⟩
  have HB9 := Lib.hid (bel_c HB3.out hb)
  clear hb
  go_wp2_with fail
  go_ret
  exact ⟨rfl, HB9.out⟩
end Lu
end Go.Proofs.Ytbkjmhpmaclbeaa
