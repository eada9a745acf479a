/-
  What the reference's long division returns.
-/
import Derived.Test.YtiogadjjacbjlaaBvRefA
import Derived.Test.YtiogadjjacbjlaaBvMathE
import Derived.LoopTactic
namespace Go.Proofs.Ytiogadjjacbjlaa
open Go.RowKit
namespace Bv
set_option maxHeartbeats 400000

theorem rdivide_any (n m : Nat) (hn : n < 18446744073709551616) (hm : m < 18446744073709551616) (hm0 : 0 < m) (W : World) :
    Calls Try.prog 28 #[.int .u64 n, .int .u64 m] W fun e W' => e = .returned (.tuple #[.int .u64 (dq n m 0 : Nat), .int .u64 (dr n m 0 : Nat)]) ∧ W = W' := by
  go_enter Try.func28, Try.ntmps28
  go_wp2
  go_loop [6, 7, 8] (fun q r i => ∃ k : Nat, k ≤ 64 ∧ i = .int .i64 ((k : Int) - 1) ∧ q = .int .u64 (dq n m k : Nat) ∧ r = .int .u64 (dr n m k : Nat)) (fun _ _ i => (intOf i + 1).toNat)
  case atStart => exact ⟨64, by omega, rfl, by rw [dq_start hn]; rfl, by rw [dr_start hn]; rfl⟩
  case round =>
    obtain ⟨k, hk, rfl, rfl, rfl⟩ := hrel
    rcases Nat.eq_zero_or_pos k with rfl | hk0
    · go_wp2
      go_ret2
      exact ⟨rfl, rfl⟩
    · obtain ⟨j, rfl⟩ : ∃ j, k = j + 1 := ⟨k - 1, by omega⟩
      have hr := dr_lt n (j + 1) hm0
      go_wp2
      · rename_i ht hc
        have ht' : dr n m (j + 1) < 9223372036854775808 := by omega
        rw [or_bit hn (by omega)] at hc
        have hc' : m ≤ 2 * dr n m (j + 1) + db n j := by omega
        have hb := db_lt n j
        refine ⟨⟨j, by omega, rfl, by rw [or_pow hn (by omega), ← dq_yes hm0 hc'], ?_⟩, by simp [intOf]⟩
        rw [or_bit hn (by omega), (dr_yes hm0 hc').1, IntKind.wrap_u64]
        congr 1; omega
      · rename_i ht hc
        have ht' : dr n m (j + 1) < 9223372036854775808 := by omega
        rw [or_bit hn (by omega)] at hc
        have hc' : 2 * dr n m (j + 1) + db n j < m := by omega
        refine ⟨⟨j, by omega, rfl, by rw [← dq_no hm0 hc'], ?_⟩, by simp [intOf]⟩
        rw [or_bit' hn, (dr_no hm0 hc').1, Nat.mod_eq_of_lt (by omega)]
      · rename_i ht
        have ht' : 9223372036854775808 ≤ dr n m (j + 1) := by omega
        have hc' : m ≤ 2 * dr n m (j + 1) + db n j := by omega
        have hb := db_lt n j
        refine ⟨⟨j, by omega, rfl, by rw [or_pow hn (by omega), ← dq_yes hm0 hc'], ?_⟩, by simp [intOf]⟩
        rw [or_bit' hn, (dr_yes hm0 hc').1, IntKind.wrap_u64]
        congr 1; omega
end Bv
end Go.Proofs.Ytiogadjjacbjlaa
