/-
  What shifts, choices and comparisons of layer known return, each as a fact on one call.
-/
import Derived.Test.YtbemkaninedonaaKnLeaf
import Derived.Deep.RegionWith
import Derived.WalkSpells
import Derived.Test.YtbemkaninedonaaBvMid
namespace Go.Proofs.Ytbemkaninedonaa
open Go.RowKit Bv Tm
namespace Kn
set_option maxHeartbeats 1000000
set_option maxRecDepth 100000

theorem mulM_lt (z far : Nat) : z * 2 ^ min far 64 % 18446744073709551616 < 18446744073709551616 := Nat.mod_lt _ (by decide)
theorem shl_int (z far : Nat) : IntKind.u64.wrap (((z : Nat) : Int) * 2 ^ min far 64) = ((z * 2 ^ min far 64 % 18446744073709551616 : Nat) : Int) := by
  rw [IntKind.wrap_u64, show ((2 : Int) ^ min far 64) = ((2 ^ min far 64 : Nat) : Int) by simp]
  generalize 2 ^ min far 64 = b
  rw [← Int.natCast_mul]
  omega
theorem shr_int (z far : Nat) : ((z : Nat) : Int) / 2 ^ min far 64 = ((z / 2 ^ min far 64 : Nat) : Int) := by simp
theorem not_int {n : Nat} (hn : n < 18446744073709551616) : bits .xor .u64 IntKind.u64.max ((n : Nat) : Int) = ((18446744073709551615 - n : Nat) : Int) := not64 hn
theorem or_lt64 {a b : Nat} (ha : a < 18446744073709551616) (hb : b < 18446744073709551616) : a ||| b < 18446744073709551616 := by
  have := Nat.or_lt_two_pow (n := 64) (x := a) (y := b) (by omega) (by omega)
  omega
theorem and_lt64 {a : Nat} (b : Nat) (ha : a < 18446744073709551616) : a &&& b < 18446744073709551616 := Nat.lt_of_le_of_lt Nat.and_le_left ha
theorem ret_kb {w z o w' z' o' : Nat} (h0 : w = w') (h1 : z = z') (h2 : o = o') : Ending.returned (.agg #[.int .u8 ((w : Nat) : Int), .int .u64 ((z : Nat) : Int), .int .u64 ((o : Nat) : Int)]) = .returned (.agg #[.int .u8 ((w' : Nat) : Int), .int .u64 ((z' : Nat) : Int), .int .u64 ((o' : Nat) : Int)]) := by rw [h0, h1, h2]

theorem kshl_any (w z o far : Nat) (h1 : 1 ≤ w) (h2 : w ≤ 64) (W : World) :
    Calls Try.prog 32 #[.int .u8 15, .agg #[.int .u8 ((w : Nat) : Int), .int .u64 ((z : Nat) : Int), .int .u64 ((o : Nat) : Int)], .int .u64 ((far : Nat) : Int)] W fun e W' => e = .returned (.agg #[.int .u8 ((w : Nat) : Int), .int .u64 (((shK 15 w (z, o) far).1 : Nat) : Int), .int .u64 (((shK 15 w (z, o) far).2 : Nat) : Int)]) ∧ Below W.heap.size W W' := by
  have e1 := shl_int z far
  have e2 := shl_int o far
  have e3 := shl_int 18446744073709551615 far
  rw [show ((18446744073709551615 : Nat) : Int) = 18446744073709551615 from rfl] at e3
  have e4 := not_int (mulM_lt 18446744073709551615 far)
  have l1 := mulM_lt z far
  have l2 := mulM_lt o far
  have l3 : 18446744073709551615 - 18446744073709551615 * 2 ^ min far 64 % 18446744073709551616 < 18446744073709551616 := by omega
  have e5 := bits_or_u64_nat _ _ l1 l3
  have E1 := Lib.hid e1
  have E2 := Lib.hid e2
  have E3 := Lib.hid e3
  have E4 := Lib.hid e4
  have E5 := Lib.hid e5
  have HC := Lib.hid (fun W => kcut_any w _ _ h1 h2 (or_lt64 l1 l3) l2 W)
  clear e1 e2 e3 e4 e5 l1 l2 l3
  go_enter Try.func32, Try.ntmps32
  go_wp2_with fail
  rw [E1.out, E2.out, E3.out, E4.out, E5.out]
  refine (HC.out _).mono ?_
  rintro e w1 ⟨rfl, rfl⟩
  go_wp2_with fail
  exact bodyPost_ret (v := .agg #[.int .u8 ((w : Nat) : Int), .int .u64 (((shK 15 w (z, o) far).1 : Nat) : Int), .int .u64 (((shK 15 w (z, o) far).2 : Nat) : Int)]) (by simp [results, Try.results32, go_sem]; exact ⟨rfl, rfl⟩) rfl ⟨rfl, bel_alloc (bel_alloc (bel_alloc (Below.refl _ _) _) _) _⟩

theorem kite_any (w z0 o0 w1 z1 o1 w2 z2 o2 : Nat) (h1 : 1 ≤ w1) (h2 : w1 ≤ 64) (hz1 : z1 < 18446744073709551616) (ho1 : o1 < 18446744073709551616) (hz2 : z2 < 18446744073709551616) (ho2 : o2 < 18446744073709551616) (W : World) :
    Calls Try.prog 35 #[.agg #[.int .u8 ((w : Nat) : Int), .int .u64 ((z0 : Nat) : Int), .int .u64 ((o0 : Nat) : Int)], .agg #[.int .u8 ((w1 : Nat) : Int), .int .u64 ((z1 : Nat) : Int), .int .u64 ((o1 : Nat) : Int)], .agg #[.int .u8 ((w2 : Nat) : Int), .int .u64 ((z2 : Nat) : Int), .int .u64 ((o2 : Nat) : Int)]] W fun e W' => e = .returned (.agg #[.int .u8 (((if o0 = 1 then w1 else if z0 = 1 then w2 else w1 : Nat) : Nat) : Int), .int .u64 (((iteK w1 (z0, o0) (z1, o1) (z2, o2)).1 : Nat) : Int), .int .u64 (((iteK w1 (z0, o0) (z1, o1) (z2, o2)).2 : Nat) : Int)]) ∧ Below W.heap.size W W' := by
  have u1 := bits_and_u64_nat z1 z2 hz1 hz2
  have u2 := bits_and_u64_nat o1 o2 ho1 ho2
  have U1 := Lib.hid u1
  have U2 := Lib.hid u2
  have HC := Lib.hid (fun x y ex ey W => kcut_of w1 x y _ _ h1 h2 (and_lt64 z2 hz1) (and_lt64 o2 ho1) ex ey W)
  clear hz1 ho1 hz2 ho2 u1 u2
  by_cases c1 : o0 = 1
  case pos =>
    subst c1
    go_enter Try.func35, Try.ntmps35
    go_wp2_with fail
    exact bodyPost_ret (v := .agg #[.int .u8 ((w1 : Nat) : Int), .int .u64 ((z1 : Nat) : Int), .int .u64 ((o1 : Nat) : Int)]) (by simp [results, Try.results35, go_sem]) rfl ⟨rfl, bel_alloc (bel_alloc (bel_alloc (bel_alloc (Below.refl _ _) _) _) _) _⟩
  case neg =>
    have d1 : (((o0 : Nat) : Int) == 1) = false := by rw [beq_eq_false_iff_ne]; omega
    have d1' : ¬ ((o0 : Nat) : Int) = 1 := by omega
    have HN := Lib.hid c1
    clear c1
    by_cases c2 : z0 = 1
    case pos =>
      subst c2
      go_enter Try.func35, Try.ntmps35
      go_wp2_with fail
      have e1 : (if o0 = 1 then w1 else if (1 : Nat) = 1 then w2 else w1 : Nat) = w2 := by rw [if_neg HN.out, if_pos rfl]
      have e2 : iteK w1 (1, o0) (z1, o1) (z2, o2) = (z2, o2) := by unfold iteK; rw [if_neg HN.out, if_pos rfl]
      exact bodyPost_ret (v := .agg #[.int .u8 ((w2 : Nat) : Int), .int .u64 ((z2 : Nat) : Int), .int .u64 ((o2 : Nat) : Int)]) (by simp [results, Try.results35, go_sem]) rfl ⟨by first | rw [e1, e2] | rw [e2], bel_alloc (bel_alloc (bel_alloc (bel_alloc (Below.refl _ _) _) _) _) _⟩
    case neg =>
      have d2 : (((z0 : Nat) : Int) == 1) = false := by rw [beq_eq_false_iff_ne]; omega
      have d2' : ¬ ((z0 : Nat) : Int) = 1 := by omega
      have HM := Lib.hid c2
      clear c2
      go_enter Try.func35, Try.ntmps35
      go_wp2_with fail
      refine (HC.out _ _ U1.out U2.out _).mono ?_
      rintro e w4 ⟨rfl, rfl⟩
      go_wp2_with fail
      have e1 : (if o0 = 1 then w1 else if z0 = 1 then w2 else w1 : Nat) = w1 := by rw [if_neg HN.out, if_neg HM.out]
      have e2 : iteK w1 (z0, o0) (z1, o1) (z2, o2) = (low w1 (z1 &&& z2), low w1 (o1 &&& o2)) := by unfold iteK; rw [if_neg HN.out, if_neg HM.out]
      exact bodyPost_ret (v := .agg #[.int .u8 ((w1 : Nat) : Int), .int .u64 ((low w1 (z1 &&& z2) : Nat) : Int), .int .u64 ((low w1 (o1 &&& o2) : Nat) : Int)]) (by simp [results, Try.results35, go_sem]) rfl ⟨by first | rw [e1, e2] | rw [e2], bel_alloc (bel_alloc (bel_alloc (bel_alloc (bel_alloc (Below.refl _ _) _) _) _) _) _⟩
end Kn
end Go.Proofs.Ytbemkaninedonaa
