/-
  What the small functions of layer known return, each as a fact on one call: they return, and what was in memory stays.
-/
import Derived.Test.YtbemkaninedonaaKnMath
import Derived.Test.YtbemkaninedonaaBvLeaf
import Derived.Test.YtbemkaninedonaaBvExit
import Derived.Lib.Hide
import Derived.Laws.BitsAllLaws
namespace Go.Proofs.Ytbemkaninedonaa
open Go.RowKit Bv Tm
namespace Kn
set_option maxHeartbeats 1000000
set_option maxRecDepth 100000

theorem kmask_any (w : Nat) (h1 : 1 ≤ w) (h2 : w ≤ 64) (W : World) :
    Calls Try.prog 33 #[.int .u8 w] W fun e W' => e = .returned (.int .u64 ((2 ^ w - 1 : Nat) : Int)) ∧ W = W' := by
  go_enter Try.func33, Try.ntmps33
  go_wp2
  go_ret
  exact ⟨ret_u64 (mask_div_int h2), rfl⟩

theorem kcut_any (w z o : Nat) (h1 : 1 ≤ w) (h2 : w ≤ 64) (hz : z < 18446744073709551616) (ho : o < 18446744073709551616) (W : World) :
    Calls Try.prog 30 #[.int .u8 ((w : Nat) : Int), .int .u64 ((z : Nat) : Int), .int .u64 ((o : Nat) : Int)] W fun e W' => e = .returned (.agg #[.int .u8 ((w : Nat) : Int), .int .u64 ((low w z : Nat) : Int), .int .u64 ((low w o : Nat) : Int)]) ∧ W.alloc (.cells #[.int .u8 ((w : Nat) : Int), .int .u64 ((low w z : Nat) : Int), .int .u64 ((low w o : Nat) : Int)] 64) = W' := by
  have e1 := and64 (z : Int) (by omega) (by omega) h2
  have e2 := and64 (o : Int) (by omega) (by omega) h2
  rw [Int.toNat_natCast] at e1 e2
  go_enter Try.func30, Try.ntmps30
  go_wp2_with (go_at_call 33; refine (kmask_any _ h1 h2 _).mono ?_; rintro e w' ⟨rfl, rfl⟩)
  exact bodyPost_ret (v := .agg #[.int .u8 w, .int .u64 ((low w z : Nat) : Int), .int .u64 ((low w o : Nat) : Int)]) (by simp [results, Try.results30, go_sem]) rfl ⟨rfl, rfl⟩

/-- The same, of numbers that are told by equations. -/
theorem kcut_of (w : Nat) (x y : Int) (z o : Nat) (h1 : 1 ≤ w) (h2 : w ≤ 64) (hz : z < 18446744073709551616) (ho : o < 18446744073709551616) (ex : x = ((z : Nat) : Int)) (ey : y = ((o : Nat) : Int)) (W : World) :
    Calls Try.prog 30 #[.int .u8 ((w : Nat) : Int), .int .u64 x, .int .u64 y] W fun e W' => e = .returned (.agg #[.int .u8 ((w : Nat) : Int), .int .u64 ((low w z : Nat) : Int), .int .u64 ((low w o : Nat) : Int)]) ∧ W.alloc (.cells #[.int .u8 ((w : Nat) : Int), .int .u64 ((low w z : Nat) : Int), .int .u64 ((low w o : Nat) : Int)] 64) = W' := by
  subst ex
  subst ey
  exact kcut_any w z o h1 h2 hz ho W

theorem lows_int {m : Nat} (hm : m < 18446744073709551616) : bits .andNot .u64 ((m : Nat) : Int) (IntKind.u64.wrap (((m : Nat) : Int) + 1)) = ((lows m : Nat) : Int) := by
  have e : IntKind.u64.wrap (((m : Nat) : Int) + 1) = (((m + 1) % 18446744073709551616 : Nat) : Int) := by rw [IntKind.wrap_u64]; omega
  rw [e, u64_andNot_nat m _ hm (Nat.mod_lt _ (by decide))]
  rfl
theorem lows_lt (m : Nat) : lows m < 18446744073709551616 := Nat.lt_of_le_of_lt Nat.and_le_right (by omega)

theorem klow_any (m : Nat) (hm : m < 18446744073709551616) (W : World) :
    Calls Try.prog 31 #[.int .u64 ((m : Nat) : Int)] W fun e W' => e = .returned (.int .u64 ((lows m : Nat) : Int)) ∧ W = W' := by
  go_enter Try.func31, Try.ntmps31
  go_wp2
  go_ret
  exact ⟨ret_u64 (lows_int hm), rfl⟩

theorem kspread_any (w n : Nat) (h1 : 1 ≤ w) (h2 : w ≤ 64) (hn : n < 2 ^ w) (W : World) :
    Calls Try.prog 34 #[.int .u8 ((w : Nat) : Int), .int .u64 ((n : Nat) : Int)] W fun e W' => e = .returned (.int .i64 (wo w n)) ∧ W = W' := by
  go_enter Try.func34, Try.ntmps34
  go_wp2
  go_ret
  exact ⟨ret_i64 (by unfold wrap64; rw [← IntKind.wrap_i64]; simp only [IntKind.wrap_u64]; exact worth_shift h1 h2 hn), rfl⟩
end Kn
end Go.Proofs.Ytbemkaninedonaa
