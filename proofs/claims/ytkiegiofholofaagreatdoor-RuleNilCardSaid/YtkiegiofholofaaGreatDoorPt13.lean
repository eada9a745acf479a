/-
What shifts, choices and comparisons of layer known return, each as a fact on one call.
What shifts, choices and comparisons of layer known return, each as a fact on one call.
What the comparison of layer known returns, and on how many kids a node hangs, each as a fact on one call.
What the walks of the masks of a node read.
-/
import Derived.Test.YtkiegiofholofaaGreatDoorPt03
import Derived.Deep.RegionWith
import Derived.WalkSpells
import Derived.Deep.RegionHeld3
import Derived.Deep.QuietTactic
import Derived.BigQuiet
import Derived.Test.YtkiegiofholofaaGreatDoorPt11
import Derived.Test.YtkiegiofholofaaGreatDoorPt10
import Derived.Deep.CutRange
import Derived.Deep.DeepCutAuto
namespace Go.Proofs.YtkiegiofholofaaGreatDoor
open Go.RowKit Bv Tm
namespace Kn
set_option maxHeartbeats 1000000
set_option maxRecDepth 100000

theorem mulM_lt (z far : Nat) : z * 2 ^ min far 64 % 18446744073709551616 < 18446744073709551616 := Nat.mod_lt _ (by decide)
theorem shl_int (z far : Nat) : IntKind.u64.wrap (((z : Nat) : Int) * 2 ^ min far 64) = ((z * 2 ^ min far 64 % 18446744073709551616 : Nat) : Int) := by
  rw [IntKind.wrap_u64, show ((2 : Int) ^ min far 64) = ((2 ^ min far 64 : Nat) : Int) by simp]
  generalize 2 ^ min far 64 = b
  rw [← Int.natCast_mul]
  omega
theorem shr_int (z far : Nat) : ((z : Nat) : Int) / 2 ^ min far 64 = ((z / 2 ^ min far 64 : Nat) : Int) := by simp
theorem not_int {n : Nat} (hn : n < 18446744073709551616) : bits .xor .u64 IntKind.u64.max ((n : Nat) : Int) = ((18446744073709551615 - n : Nat) : Int) := not64 hn
theorem or_lt64 {a b : Nat} (ha : a < 18446744073709551616) (hb : b < 18446744073709551616) : a ||| b < 18446744073709551616 := by
  have := Nat.or_lt_two_pow (n := 64) (x := a) (y := b) (by omega) (by omega)
  omega
theorem and_lt64 {a : Nat} (b : Nat) (ha : a < 18446744073709551616) : a &&& b < 18446744073709551616 := Nat.lt_of_le_of_lt Nat.and_le_left ha
theorem ret_kb {w z o w' z' o' : Nat} (h0 : w = w') (h1 : z = z') (h2 : o = o') : Ending.returned (.agg #[.int .u8 ((w : Nat) : Int), .int .u64 ((z : Nat) : Int), .int .u64 ((o : Nat) : Int)]) = .returned (.agg #[.int .u8 ((w' : Nat) : Int), .int .u64 ((z' : Nat) : Int), .int .u64 ((o' : Nat) : Int)]) := by rw [h0, h1, h2]

theorem kshl_any (w z o far : Nat) (h1 : 1 ≤ w) (h2 : w ≤ 64) (W : World) :
    Calls Tryz.prog 149 #[.int .u8 15, .agg #[.int .u8 ((w : Nat) : Int), .int .u64 ((z : Nat) : Int), .int .u64 ((o : Nat) : Int)], .int .u64 ((far : Nat) : Int)] W fun e W' => e = .returned (.agg #[.int .u8 ((w : Nat) : Int), .int .u64 (((shK 15 w (z, o) far).1 : Nat) : Int), .int .u64 (((shK 15 w (z, o) far).2 : Nat) : Int)]) ∧ Below W.heap.size W W' := by
  have e1 := shl_int z far
  have e2 := shl_int o far
  have e3 := shl_int 18446744073709551615 far
  rw [show ((18446744073709551615 : Nat) : Int) = 18446744073709551615 from rfl] at e3
  have e4 := not_int (mulM_lt 18446744073709551615 far)
  have l1 := mulM_lt z far
  have l2 := mulM_lt o far
  have l3 : 18446744073709551615 - 18446744073709551615 * 2 ^ min far 64 % 18446744073709551616 < 18446744073709551616 := by omega
  have e5 := bits_or_u64_nat _ _ l1 l3
  have E1 := Lib.hid e1
  have E2 := Lib.hid e2
  have E3 := Lib.hid e3
  have E4 := Lib.hid e4
  have E5 := Lib.hid e5
  have HC := Lib.hid (fun W => kcut_any w _ _ h1 h2 (or_lt64 l1 l3) l2 W)
  clear e1 e2 e3 e4 e5 l1 l2 l3
  go_enter Tryz.func149, Tryz.ntmps149
  go_wp2_with fail
  rw [E1.out, E2.out, E3.out, E4.out, E5.out]
  refine (HC.out _).mono ?_
  rintro e w1 ⟨rfl, rfl⟩
  go_wp2_with fail
  exact bodyPost_ret (v := .agg #[.int .u8 ((w : Nat) : Int), .int .u64 (((shK 15 w (z, o) far).1 : Nat) : Int), .int .u64 (((shK 15 w (z, o) far).2 : Nat) : Int)]) (by simp [results, Tryz.results149, go_sem]; exact ⟨rfl, rfl⟩) rfl ⟨rfl, bel_alloc (bel_alloc (bel_alloc (Below.refl _ _) _) _) _⟩

theorem kite_any (w z0 o0 w1 z1 o1 w2 z2 o2 : Nat) (h1 : 1 ≤ w1) (h2 : w1 ≤ 64) (hz1 : z1 < 18446744073709551616) (ho1 : o1 < 18446744073709551616) (hz2 : z2 < 18446744073709551616) (ho2 : o2 < 18446744073709551616) (W : World) :
    Calls Tryz.prog 152 #[.agg #[.int .u8 ((w : Nat) : Int), .int .u64 ((z0 : Nat) : Int), .int .u64 ((o0 : Nat) : Int)], .agg #[.int .u8 ((w1 : Nat) : Int), .int .u64 ((z1 : Nat) : Int), .int .u64 ((o1 : Nat) : Int)], .agg #[.int .u8 ((w2 : Nat) : Int), .int .u64 ((z2 : Nat) : Int), .int .u64 ((o2 : Nat) : Int)]] W fun e W' => e = .returned (.agg #[.int .u8 (((if o0 = 1 then w1 else if z0 = 1 then w2 else w1 : Nat) : Nat) : Int), .int .u64 (((iteK w1 (z0, o0) (z1, o1) (z2, o2)).1 : Nat) : Int), .int .u64 (((iteK w1 (z0, o0) (z1, o1) (z2, o2)).2 : Nat) : Int)]) ∧ Below W.heap.size W W' := by
  have u1 := bits_and_u64_nat z1 z2 hz1 hz2
  have u2 := bits_and_u64_nat o1 o2 ho1 ho2
  have U1 := Lib.hid u1
  have U2 := Lib.hid u2
  have HC := Lib.hid (fun x y ex ey W => kcut_of w1 x y _ _ h1 h2 (and_lt64 z2 hz1) (and_lt64 o2 ho1) ex ey W)
  clear hz1 ho1 hz2 ho2 u1 u2
  by_cases c1 : o0 = 1
  case pos =>
    subst c1
    go_enter Tryz.func152, Tryz.ntmps152
    go_wp2_with fail
    exact bodyPost_ret (v := .agg #[.int .u8 ((w1 : Nat) : Int), .int .u64 ((z1 : Nat) : Int), .int .u64 ((o1 : Nat) : Int)]) (by simp [results, Tryz.results152, go_sem]) rfl ⟨rfl, bel_alloc (bel_alloc (bel_alloc (bel_alloc (Below.refl _ _) _) _) _) _⟩
  case neg =>
    have d1 : (((o0 : Nat) : Int) == 1) = false := by rw [beq_eq_false_iff_ne]; omega
    have d1' : ¬ ((o0 : Nat) : Int) = 1 := by omega
    have HN := Lib.hid c1
    clear c1
    by_cases c2 : z0 = 1
    case pos =>
      subst c2
      go_enter Tryz.func152, Tryz.ntmps152
      go_wp2_with fail
      have e1 : (if o0 = 1 then w1 else if (1 : Nat) = 1 then w2 else w1 : Nat) = w2 := by rw [if_neg HN.out, if_pos rfl]
      have e2 : iteK w1 (1, o0) (z1, o1) (z2, o2) = (z2, o2) := by unfold iteK; rw [if_neg HN.out, if_pos rfl]
      exact bodyPost_ret (v := .agg #[.int .u8 ((w2 : Nat) : Int), .int .u64 ((z2 : Nat) : Int), .int .u64 ((o2 : Nat) : Int)]) (by simp [results, Tryz.results152, go_sem]) rfl ⟨by first | rw [e1, e2] | rw [e2], bel_alloc (bel_alloc (bel_alloc (bel_alloc (Below.refl _ _) _) _) _) _⟩
    case neg =>
      have d2 : (((z0 : Nat) : Int) == 1) = false := by rw [beq_eq_false_iff_ne]; omega
      have d2' : ¬ ((z0 : Nat) : Int) = 1 := by omega
      have HM := Lib.hid c2
      clear c2
      go_enter Tryz.func152, Tryz.ntmps152
      go_wp2_with fail
      refine (HC.out _ _ U1.out U2.out _).mono ?_
      rintro e w4 ⟨rfl, rfl⟩
      go_wp2_with fail
      have e1 : (if o0 = 1 then w1 else if z0 = 1 then w2 else w1 : Nat) = w1 := by rw [if_neg HN.out, if_neg HM.out]
      have e2 : iteK w1 (z0, o0) (z1, o1) (z2, o2) = (low w1 (z1 &&& z2), low w1 (o1 &&& o2)) := by unfold iteK; rw [if_neg HN.out, if_neg HM.out]
      exact bodyPost_ret (v := .agg #[.int .u8 ((w1 : Nat) : Int), .int .u64 ((low w1 (z1 &&& z2) : Nat) : Int), .int .u64 ((low w1 (o1 &&& o2) : Nat) : Int)]) (by simp [results, Tryz.results152, go_sem]) rfl ⟨by first | rw [e1, e2] | rw [e2], bel_alloc (bel_alloc (bel_alloc (bel_alloc (bel_alloc (Below.refl _ _) _) _) _) _) _⟩
end Kn
end Go.Proofs.YtkiegiofholofaaGreatDoor

namespace Go.Proofs.YtkiegiofholofaaGreatDoor
open Go.RowKit Bv Tm
namespace Kn
set_option maxHeartbeats 300000
set_option maxRecDepth 100000

theorem klshr_any (w z o far : Nat) (h1 : 1 ≤ w) (h2 : w ≤ 64) (hz : z < 18446744073709551616) (ho : o < 18446744073709551616) (W : World) :
    Calls Tryz.prog 149 #[.int .u8 16, .agg #[.int .u8 ((w : Nat) : Int), .int .u64 ((z : Nat) : Int), .int .u64 ((o : Nat) : Int)], .int .u64 ((far : Nat) : Int)] W fun e W' => e = .returned (.agg #[.int .u8 ((w : Nat) : Int), .int .u64 (((shK 16 w (z, o) far).1 : Nat) : Int), .int .u64 (((shK 16 w (z, o) far).2 : Nat) : Int)]) ∧ Below W.heap.size W W' := by
  have hp := pow_le64 h2
  have l1 : z / 2 ^ min far 64 < 18446744073709551616 := Nat.lt_of_le_of_lt (Nat.div_le_self _ _) hz
  have l2 : o / 2 ^ min far 64 < 18446744073709551616 := Nat.lt_of_le_of_lt (Nat.div_le_self _ _) ho
  have l4 : (2 ^ w - 1) / 2 ^ min far 64 < 18446744073709551616 := Nat.lt_of_le_of_lt (Nat.div_le_self _ _) (Nat.lt_of_lt_of_le (Nat.sub_lt (pow_pos' w) (by decide)) hp)
  have l3 : 18446744073709551615 - (2 ^ w - 1) / 2 ^ min far 64 < 18446744073709551616 := Nat.lt_of_le_of_lt (Nat.sub_le _ _) (by decide)
  have e4 := not_int l4
  have e5 := bits_or_u64_nat _ _ l1 l3
  rw [← e4, ← shr_int, ← shr_int] at e5
  have EX := Lib.hid e5
  have EY := Lib.hid (shr_int o far)
  have HI : Hid ((if IntKind.u64.signed = true then (-1 : Int) else IntKind.u64.max) = IntKind.u64.max) := Lib.hid rfl
  have HM := Lib.hid (fun W => kmask_any w h1 h2 W)
  have HC := Lib.hid (fun x y ex ey W => kcut_of w x y _ _ h1 h2 (or_lt64 l1 l3) l2 ex ey W)
  clear hp hz ho l1 l2 l3 l4 e4 e5
  go_enter Tryz.func149, Tryz.ntmps149
  go_wp2_with fail
  go_region_held3 (fun w' => w'.cell? ⟨W.heap.size, 0, none⟩ = some (.int .u8 ((w : Nat) : Int)) ∧ w'.cell? ⟨W.heap.size, 1, none⟩ = some (.int .u64 ((z : Nat) : Int)) ∧ w'.cell? ⟨W.heap.size, 2, none⟩ = some (.int .u64 ((o : Nat) : Int)))
    (first | ((try dsimp only); (try go_split_ands); refine ⟨?_, ?_, ?_⟩ <;> (first | assumption | (simp [go_sem]; done))) | (go_keep; done))
    (first | (go_at_call 150; refine (HM.out _).mono ?_; rintro e w' ⟨rfl, rfl⟩) | (go_at_call 147; go_must (first | rw [HI.out, EX.out, EY.out] | rw [EX.out, EY.out]); go_must (with_reducible refine (HC.out _ _ rfl rfl _).mono ?_); rintro e w1 ⟨rfl, rfl⟩))
  all_goals go_wp2_with fail
  all_goals
    have e2 : shK 16 w (z, o) far = (low w (z / 2 ^ min far 64 ||| (18446744073709551615 - (2 ^ w - 1) / 2 ^ min far 64)), low w (o / 2 ^ min far 64)) := by unfold shK; rw [if_neg (by decide), if_pos rfl]
    rw [e2]
    generalize low w (z / 2 ^ min far 64 ||| (18446744073709551615 - (2 ^ w - 1) / 2 ^ min far 64)) = A
    generalize low w (o / 2 ^ min far 64) = B
    exact bodyPost_ret (v := .agg #[.int .u8 ((w : Nat) : Int), .int .u64 ((A : Nat) : Int), .int .u64 ((B : Nat) : Int)]) (by simp [results, Tryz.results149, go_sem]) rfl ⟨rfl, bel_alloc (bel_alloc (bel_alloc (Below.refl _ _) _) _).drew _⟩

theorem wo_lt {w n : Nat} (h1 : 1 ≤ w) (h2 : w ≤ 64) (hn : n < 2 ^ w) : -9223372036854775808 ≤ wo w n ∧ wo w n < 9223372036854775808 := by
  have h := pow_half h1
  have hp : 2 ^ (w - 1) ≤ 9223372036854775808 := by
    have := Nat.pow_le_pow_right (n := 2) (by omega) (show w - 1 ≤ 63 by omega)
    simpa using this
  unfold wo
  rw [h] at hn ⊢
  generalize 2 ^ (w - 1) = a at *
  split <;> omega

theorem kashr_any (w z o far : Nat) (h1 : 1 ≤ w) (h2 : w ≤ 64) (hz : z < 2 ^ w) (ho : o < 2 ^ w) (W : World) :
    Calls Tryz.prog 149 #[.int .u8 17, .agg #[.int .u8 ((w : Nat) : Int), .int .u64 ((z : Nat) : Int), .int .u64 ((o : Nat) : Int)], .int .u64 ((far : Nat) : Int)] W fun e W' => e = .returned (.agg #[.int .u8 ((w : Nat) : Int), .int .u64 (((shK 17 w (z, o) far).1 : Nat) : Int), .int .u64 (((shK 17 w (z, o) far).2 : Nat) : Int)]) ∧ Below W.heap.size W W' := by
  have u : ∀ n, IntKind.u64.wrap (wo w n / 2 ^ min far 64) = ((numB 17 w w n far : Nat) : Int) := fun n => by
    show _ = (((wo w n / 2 ^ min far 64) % 18446744073709551616).toNat : Int)
    rw [IntKind.wrap_u64]
    omega
  have U := Lib.hid u
  have l : ∀ n, numB 17 w w n far < 18446744073709551616 := fun n => by
    show ((wo w n / 2 ^ min far 64) % 18446744073709551616).toNat < _
    omega
  have HS := Lib.hid (fun W => kspread_any w z h1 h2 hz W)
  have HT := Lib.hid (fun W => kspread_any w o h1 h2 ho W)
  have HC := Lib.hid (fun x y ex ey W => kcut_of w x y _ _ h1 h2 (l z) (l o) ex ey W)
  clear u l hz ho
  go_enter Tryz.func149, Tryz.ntmps149
  go_wp2_with fail
  go_region_held3 (fun w' => w'.cell? ⟨W.heap.size, 0, none⟩ = some (.int .u8 ((w : Nat) : Int)) ∧ w'.cell? ⟨W.heap.size, 1, none⟩ = some (.int .u64 ((z : Nat) : Int)) ∧ w'.cell? ⟨W.heap.size, 2, none⟩ = some (.int .u64 ((o : Nat) : Int)))
    (first | ((try dsimp only); (try go_split_ands); refine ⟨?_, ?_, ?_⟩ <;> (first | assumption | (simp [go_sem]; done))) | (go_keep; done))
    (first | (go_at_call 151; first | (with_reducible refine (HS.out _).mono ?_; rintro e w' ⟨rfl, rfl⟩) | (with_reducible refine (HT.out _).mono ?_; rintro e w' ⟨rfl, rfl⟩)) | (go_at_call 147; go_must (rw [U.out, U.out]); go_must (with_reducible refine (HC.out _ _ rfl rfl _).mono ?_); rintro e w1 ⟨rfl, rfl⟩))
  all_goals go_wp2_with fail
  all_goals
    have e2 : shK 17 w (z, o) far = (low w (numB 17 w w z far), low w (numB 17 w w o far)) := by unfold shK; rw [if_neg (by decide), if_neg (by decide)]
    rw [e2]
    generalize low w (numB 17 w w z far) = A
    generalize low w (numB 17 w w o far) = B
    exact bodyPost_ret (v := .agg #[.int .u8 ((w : Nat) : Int), .int .u64 ((A : Nat) : Int), .int .u64 ((B : Nat) : Int)]) (by simp [results, Tryz.results149, go_sem]) rfl ⟨rfl, bel_alloc (bel_alloc (bel_alloc (Below.refl _ _) _) _).drew _⟩

end Kn
end Go.Proofs.YtkiegiofholofaaGreatDoor

namespace Go.Proofs.YtkiegiofholofaaGreatDoor
open Go.RowKit Bv Tm
namespace Kn
set_option maxHeartbeats 400000
set_option maxRecDepth 100000

theorem cut_10 (v : World) : Calls Tryz.prog 147 #[.int .u8 1, .int .u64 1, .int .u64 0] v fun e v' => e = .returned (.agg #[.int .u8 1, .int .u64 1, .int .u64 0]) ∧ v.alloc (.cells #[.int .u8 1, .int .u64 1, .int .u64 0] 161) = v' := by
  have h := kcut_any 1 1 0 (by omega) (by omega) (by omega) (by omega) v
  rw [show low 1 1 = 1 by decide, show low 1 0 = 0 by decide] at h
  exact h
theorem cut_01 (v : World) : Calls Tryz.prog 147 #[.int .u8 1, .int .u64 0, .int .u64 1] v fun e v' => e = .returned (.agg #[.int .u8 1, .int .u64 0, .int .u64 1]) ∧ v.alloc (.cells #[.int .u8 1, .int .u64 0, .int .u64 1] 161) = v' := by
  have h := kcut_any 1 0 1 (by omega) (by omega) (by omega) (by omega) v
  rw [show low 1 0 = 0 by decide, show low 1 1 = 1 by decide] at h
  exact h
theorem cut_00 (v : World) : Calls Tryz.prog 147 #[.int .u8 1, .int .u64 0, .int .u64 0] v fun e v' => e = .returned (.agg #[.int .u8 1, .int .u64 0, .int .u64 0]) ∧ v.alloc (.cells #[.int .u8 1, .int .u64 0, .int .u64 0] 161) = v' := by
  have h := kcut_any 1 0 0 (by omega) (by omega) (by omega) (by omega) v
  rw [show low 1 0 = 0 by decide] at h
  exact h

theorem ksame_any (w z0 o0 w1 z1 o1 : Nat) (h1 : 1 ≤ w) (h2 : w ≤ 64) (hz0 : z0 < 18446744073709551616) (ho0 : o0 < 18446744073709551616) (hz1 : z1 < 18446744073709551616) (ho1 : o1 < 18446744073709551616) (W : World) :
    Calls Tryz.prog 153 #[.agg #[.int .u8 ((w : Nat) : Int), .int .u64 ((z0 : Nat) : Int), .int .u64 ((o0 : Nat) : Int)], .agg #[.int .u8 ((w1 : Nat) : Int), .int .u64 ((z1 : Nat) : Int), .int .u64 ((o1 : Nat) : Int)]] W fun e W' => e = .returned (.agg #[.int .u8 1, .int .u64 (((eqK w (z0, o0) (z1, o1)).1 : Nat) : Int), .int .u64 (((eqK w (z0, o0) (z1, o1)).2 : Nat) : Int)]) ∧ Below W.heap.size W W' := by
  obtain ⟨P, hP⟩ : ∃ P, z0 &&& o1 = P := ⟨_, rfl⟩
  obtain ⟨Q, hQ⟩ : ∃ Q, o0 &&& z1 = Q := ⟨_, rfl⟩
  obtain ⟨A, hA⟩ : ∃ A, P ||| Q = A := ⟨_, rfl⟩
  obtain ⟨R, hR⟩ : ∃ R, z0 ||| o0 = R := ⟨_, rfl⟩
  obtain ⟨S, hS⟩ : ∃ S, z1 ||| o1 = S := ⟨_, rfl⟩
  obtain ⟨B, hB⟩ : ∃ B, R &&& S = B := ⟨_, rfl⟩
  obtain ⟨M, hM⟩ : ∃ M, 2 ^ w - 1 = M := ⟨_, rfl⟩
  have k1 : bits .and .u64 ((z0 : Nat) : Int) ((o1 : Nat) : Int) = ((P : Nat) : Int) := by rw [← hP]; exact bits_and_u64_nat z0 o1 hz0 ho1
  have k2 : bits .and .u64 ((o0 : Nat) : Int) ((z1 : Nat) : Int) = ((Q : Nat) : Int) := by rw [← hQ]; exact bits_and_u64_nat o0 z1 ho0 hz1
  have k3 : bits .or .u64 ((P : Nat) : Int) ((Q : Nat) : Int) = ((A : Nat) : Int) := by rw [← hA]; exact bits_or_u64_nat P Q (by rw [← hP]; exact and_lt64 _ hz0) (by rw [← hQ]; exact and_lt64 _ ho0)
  have k4 : bits .or .u64 ((z0 : Nat) : Int) ((o0 : Nat) : Int) = ((R : Nat) : Int) := by rw [← hR]; exact bits_or_u64_nat z0 o0 hz0 ho0
  have k5 : bits .or .u64 ((z1 : Nat) : Int) ((o1 : Nat) : Int) = ((S : Nat) : Int) := by rw [← hS]; exact bits_or_u64_nat z1 o1 hz1 ho1
  have k6 : bits .and .u64 ((R : Nat) : Int) ((S : Nat) : Int) = ((B : Nat) : Int) := by rw [← hB]; exact bits_and_u64_nat R S (by rw [← hR]; exact or_lt64 hz0 ho0) (by rw [← hS]; exact or_lt64 hz1 ho1)
  have HM : Hid (∀ v, Calls Tryz.prog 150 #[.int .u8 ((w : Nat) : Int)] v fun e v' => e = .returned (.int .u64 ((M : Nat) : Int)) ∧ v = v') := Lib.hid (fun v => by rw [← hM]; exact kmask_any w h1 h2 v)
  have HC1 : Hid (∀ v, Calls Tryz.prog 147 #[.int .u8 1, .int .u64 1, .int .u64 0] v fun e v' => e = .returned (.agg #[.int .u8 1, .int .u64 1, .int .u64 0]) ∧ v.alloc (.cells #[.int .u8 1, .int .u64 1, .int .u64 0] 161) = v') := Lib.hid (cut_10)
  have HC2 : Hid (∀ v, Calls Tryz.prog 147 #[.int .u8 1, .int .u64 0, .int .u64 1] v fun e v' => e = .returned (.agg #[.int .u8 1, .int .u64 0, .int .u64 1]) ∧ v.alloc (.cells #[.int .u8 1, .int .u64 0, .int .u64 1] 161) = v') := Lib.hid (cut_01)
  have HC3 : Hid (∀ v, Calls Tryz.prog 147 #[.int .u8 1, .int .u64 0, .int .u64 0] v fun e v' => e = .returned (.agg #[.int .u8 1, .int .u64 0, .int .u64 0]) ∧ v.alloc (.cells #[.int .u8 1, .int .u64 0, .int .u64 0] 161) = v') := Lib.hid (cut_00)
  have HK : Hid (eqK w (z0, o0) (z1, o1) = if ¬ A = 0 then (1, 0) else if B = M then (0, 1) else (0, 0)) := Lib.hid (by unfold eqK; simp only [hP, hQ, hA, hR, hS, hB, hM])
  clear hP hQ hA hR hS hB hM hz0 ho0 hz1 ho1
  by_cases c1 : A = 0
  case neg =>
    have d1 : (((A : Nat) : Int) != 0) = true := by simp; omega
    have d2 : ¬ ((A : Nat) : Int) = 0 := by omega
    rw [HK.out, if_pos c1]
    go_enter Tryz.func153, Tryz.ntmps153
    go_wp2_with (go_at_call 147; refine (HC1.out _).mono ?_; rintro e w1 ⟨rfl, rfl⟩)
    exact bodyPost_ret (v := .agg #[.int .u8 1, .int .u64 1, .int .u64 0]) (by simp [results, Tryz.results153, go_sem]) rfl ⟨rfl, bel_alloc (bel_alloc (bel_alloc (bel_alloc (Below.refl _ _) _) _) _) _⟩
  case pos =>
    have HA := Lib.hid c1
    subst c1
    by_cases c2 : B = M
    case pos =>
      have HB := Lib.hid c2
      rw [HK.out, if_neg (by simp), if_pos c2]
      subst c2
      go_enter Tryz.func153, Tryz.ntmps153
      go_wp2_with fail
      go_quiet ((go_at_call 150; exact Calls.quiet_of_same ((HM.out _).mono fun _ _ h => ⟨h.1, h.2.symm⟩)))
      go_wp2_with (go_at_call 147; refine (HC2.out _).mono ?_; rintro e w1 ⟨rfl, rfl⟩)
      exact bodyPost_ret (v := .agg #[.int .u8 1, .int .u64 0, .int .u64 1]) (by simp [results, Tryz.results153, go_sem]) rfl ⟨rfl, bel_alloc ((((bel_drewN (bel_alloc (bel_alloc (bel_alloc (Below.refl _ _) _) _) _) _).setCell (by simp; omega) _).setCell (by simp; omega) _).setCell (by simp; omega) _) _⟩
    case neg =>
      have d3 : (((B : Nat) : Int) == ((M : Nat) : Int)) = false := by rw [beq_eq_false_iff_ne]; omega
      have d4 : ¬ ((B : Nat) : Int) = ((M : Nat) : Int) := by omega
      rw [HK.out, if_neg (by simp), if_neg c2]
      clear c2
      go_enter Tryz.func153, Tryz.ntmps153
      go_wp2_with fail
      go_quiet ((go_at_call 150; exact Calls.quiet_of_same ((HM.out _).mono fun _ _ h => ⟨h.1, h.2.symm⟩)))
      go_wp2_with (go_at_call 147; refine (HC3.out _).mono ?_; rintro e w1 ⟨rfl, rfl⟩)
      exact bodyPost_ret (v := .agg #[.int .u8 1, .int .u64 0, .int .u64 0]) (by simp [results, Tryz.results153, go_sem]) rfl ⟨rfl, bel_alloc ((((bel_drewN (bel_alloc (bel_alloc (bel_alloc (Below.refl _ _) _) _) _) _).setCell (by simp; omega) _).setCell (by simp; omega) _).setCell (by simp; omega) _) _⟩
end Kn
end Go.Proofs.YtkiegiofholofaaGreatDoor

namespace Go.Proofs.YtkiegiofholofaaGreatDoor
open Go.RowKit Go.Maps Bv Tm
namespace Kn
set_option maxHeartbeats 2000000
set_option maxRecDepth 100000

/-- What the map in block b answers of three numbers. -/
def LookK (W : World) (b : Nat) (k0 k1 k2 : Int) (w0 z0 o0 w1 z1 o1 w2 z2 o2 : Nat) : Prop := b < W.heap.size ∧ ∀ w' : World, w'.heap[b]? = W.heap[b]? →
  (Instr.lookup 158 (.map (some b)) (.int .i64 k0) false).run Tryz.prog w' = .ok (.agg #[.int .u8 ((w0 : Nat) : Int), .int .u64 ((z0 : Nat) : Int), .int .u64 ((o0 : Nat) : Int)]) w' ∧
  (Instr.lookup 158 (.map (some b)) (.int .i64 k1) false).run Tryz.prog w' = .ok (.agg #[.int .u8 ((w1 : Nat) : Int), .int .u64 ((z1 : Nat) : Int), .int .u64 ((o1 : Nat) : Int)]) w' ∧
  (Instr.lookup 158 (.map (some b)) (.int .i64 k2) false).run Tryz.prog w' = .ok (.agg #[.int .u8 ((w2 : Nat) : Int), .int .u64 ((z2 : Nat) : Int), .int .u64 ((o2 : Nat) : Int)]) w'

/-- What the walks read. -/
structure SureS (W : World) (b : Nat) (x0 x1 x5 x6 : Value) (k0 k1 k2 : Int) (w0 z0 o0 w1 z1 o1 w2 z2 o2 : Nat) (w : World) : Prop where
  box : At7 w W.heap.size x0 x1 (.int .i64 k0) (.int .i64 k1) (.int .i64 k2) x5 x6
  look : LookK w b k0 k1 k2 w0 z0 o0 w1 z1 o1 w2 z2 o2
  bel : Below W.heap.size W w
  bl : b < W.heap.size
section
variable {W w : World} {b : Nat} {x0 x1 x5 x6 : Value} {k0 k1 k2 : Int} {w0 z0 o0 w1 z1 o1 w2 z2 o2 : Nat}
theorem LookK.same {w' : World} (h : LookK w b k0 k1 k2 w0 z0 o0 w1 z1 o1 w2 z2 o2) (e : w'.heap[b]? = w.heap[b]?) (hs : w.heap.size ≤ w'.heap.size) : LookK w' b k0 k1 k2 w0 z0 o0 w1 z1 o1 w2 z2 o2 :=
  ⟨Nat.lt_of_lt_of_le h.1 hs, fun v hv => h.2 v (hv.trans e)⟩
theorem SureS.alloc (h : SureS W b x0 x1 x5 x6 k0 k1 k2 w0 z0 o0 w1 z1 o1 w2 z2 o2 w) (o : Obj) : SureS W b x0 x1 x5 x6 k0 k1 k2 w0 z0 o0 w1 z1 o1 w2 z2 o2 (w.alloc o) :=
  ⟨h.box.alloc o, h.look.same (Below.heap_alloc _ _ _ h.look.1) (by simp), bel_alloc h.bel o, h.bl⟩
theorem SureS.drew (h : SureS W b x0 x1 x5 x6 k0 k1 k2 w0 z0 o0 w1 z1 o1 w2 z2 o2 w) : SureS W b x0 x1 x5 x6 k0 k1 k2 w0 z0 o0 w1 z1 o1 w2 z2 o2 w.drew :=
  ⟨h.box.drew, h.look.same rfl (Nat.le_refl _), h.bel.drew, h.bl⟩
theorem SureS.setCell (h : SureS W b x0 x1 x5 x6 k0 k1 k2 w0 z0 o0 w1 z1 o1 w2 z2 o2 w) (p : Addr) (u : Value) (hp : W.heap.size < p.block) : SureS W b x0 x1 x5 x6 k0 k1 k2 w0 z0 o0 w1 z1 o1 w2 z2 o2 (w.setCell p u) :=
  ⟨h.box.move (fun o => World.cell?_setCell_far _ _ _ _ (by simp; omega)), h.look.same (Below.heap_setCell _ _ _ _ (by have := h.bl; omega)) (by simp [World.setCell]), h.bel.setCell (Nat.le_of_lt hp) u, h.bl⟩
theorem SureS.facts (h : SureS W b x0 x1 x5 x6 k0 k1 k2 w0 z0 o0 w1 z1 o1 w2 z2 o2 w) : w.cell? ⟨W.heap.size, 0, none⟩ = some x0 ∧ w.cell? ⟨W.heap.size, 1, none⟩ = some x1 ∧ w.cell? ⟨W.heap.size, 2, none⟩ = some (.int .i64 k0) ∧ w.cell? ⟨W.heap.size, 3, none⟩ = some (.int .i64 k1) ∧ w.cell? ⟨W.heap.size, 4, none⟩ = some (.int .i64 k2) ∧ w.cell? ⟨W.heap.size, 5, none⟩ = some x5 ∧ w.cell? ⟨W.heap.size, 6, none⟩ = some x6 ∧
  (Instr.lookup 158 (.map (some b)) (.int .i64 k0) false).run Tryz.prog w = .ok (.agg #[.int .u8 ((w0 : Nat) : Int), .int .u64 ((z0 : Nat) : Int), .int .u64 ((o0 : Nat) : Int)]) w ∧
  (Instr.lookup 158 (.map (some b)) (.int .i64 k1) false).run Tryz.prog w = .ok (.agg #[.int .u8 ((w1 : Nat) : Int), .int .u64 ((z1 : Nat) : Int), .int .u64 ((o1 : Nat) : Int)]) w ∧
  (Instr.lookup 158 (.map (some b)) (.int .i64 k2) false).run Tryz.prog w = .ok (.agg #[.int .u8 ((w2 : Nat) : Int), .int .u64 ((z2 : Nat) : Int), .int .u64 ((o2 : Nat) : Int)]) w := by
  have A := h.box
  unfold At7 at A
  exact ⟨A.1, A.2.1, A.2.2.1, A.2.2.2.1, A.2.2.2.2.1, A.2.2.2.2.2.1, A.2.2.2.2.2.2, h.look.2 w rfl⟩
end

/-- Three cells, the whole of a variable of masks. -/
def At3 (w : World) (p : Nat) (x y z : Value) : Prop := p < w.heap.size ∧ w.cell? ⟨p, 0, none⟩ = some x ∧ w.cell? ⟨p, 1, none⟩ = some y ∧ w.cell? ⟨p, 2, none⟩ = some z

/-- What the call has of its own: the node, the answer. -/
structure SureR (W : World) (x0 x1 x2 x3 x4 x5 x6 : Value) (w : World) : Prop where
  box : At7 w W.heap.size x0 x1 x2 x3 x4 x5 x6
  r0 : w.cell? ⟨W.heap.size + 1, 0, none⟩ = some (.int .u8 0)
  r1 : w.cell? ⟨W.heap.size + 1, 1, none⟩ = some (.int .u64 0)
  r2 : w.cell? ⟨W.heap.size + 1, 2, none⟩ = some (.int .u64 0)
  fr : ∀ o, w.frozen? ⟨W.heap.size + 1, o, none⟩ = false
  l : W.heap.size + 1 < w.heap.size
  b : Below W.heap.size W w
theorem SureR.call {W w w' : World} {x0 x1 x2 x3 x4 x5 x6 : Value} (h : SureR W x0 x1 x2 x3 x4 x5 x6 w) (k : Below w.heap.size w w') : SureR W x0 x1 x2 x3 x4 x5 x6 w' := by
  have l := h.l
  exact ⟨h.box.keep k, (k.cell (p := ⟨W.heap.size + 1, 0, none⟩) l).trans h.r0, (k.cell (p := ⟨W.heap.size + 1, 1, none⟩) l).trans h.r1, (k.cell (p := ⟨W.heap.size + 1, 2, none⟩) l).trans h.r2,
    fun o => (k.frozen (p := ⟨W.heap.size + 1, o, none⟩) l).trans (h.fr o), Nat.lt_of_lt_of_le l k.size, bel_call h.b k⟩
theorem keep3 {w : World} {q o A : Nat} {v a b c : Value} {X : Obj} (hq : q < w.heap.size) (hne : A ≠ q) (h : w.cell? ⟨q, o, none⟩ = some v) : (((((w.setCell ⟨A, 0, none⟩ a).setCell ⟨A, 1, none⟩ b).setCell ⟨A, 2, none⟩ c).alloc X).drew).cell? ⟨q, o, none⟩ = some v := by
  show ((((w.setCell ⟨A, 0, none⟩ a).setCell ⟨A, 1, none⟩ b).setCell ⟨A, 2, none⟩ c).alloc X).cell? ⟨q, o, none⟩ = some v
  rw [World.cell?_alloc_lt _ _ _ (by simpa [World.setCell] using hq), World.cell?_setCell_far _ _ _ _ hne, World.cell?_setCell_far _ _ _ _ hne, World.cell?_setCell_far _ _ _ _ hne]
  exact h
/-- What the calls behind the look-up leave. -/
structure SureM (W : World) (g h : Nat) (x0 x1 x2 x3 x4 x5 x6 a0 a1 a2 c0 c1 c2 : Value) (w : World) : Prop where
  box : At7 w W.heap.size x0 x1 x2 x3 x4 x5 x6
  gx : At3 w g a0 a1 a2
  hx : At3 w h c0 c1 c2
theorem At3.call {w w' : World} {p : Nat} {x y z : Value} (h : At3 w p x y z) (k : Below w.heap.size w w') : At3 w' p x y z :=
  ⟨Nat.lt_of_lt_of_le h.1 k.size, (k.cell (p := ⟨p, 0, none⟩) h.1).trans h.2.1, (k.cell (p := ⟨p, 1, none⟩) h.1).trans h.2.2.1, (k.cell (p := ⟨p, 2, none⟩) h.1).trans h.2.2.2⟩
theorem At3.setCell {w : World} {p q o : Nat} {x y z u : Value} (h : At3 w p x y z) (hn : q ≠ p) : At3 (w.setCell ⟨q, o, none⟩ u) p x y z :=
  ⟨by simpa [World.setCell] using h.1, (World.cell?_setCell_far _ _ _ _ hn).trans h.2.1, (World.cell?_setCell_far _ _ _ _ hn).trans h.2.2.1, (World.cell?_setCell_far _ _ _ _ hn).trans h.2.2.2⟩
section
variable {W w w' : World} {g h : Nat} {x0 x1 x2 x3 x4 x5 x6 a0 a1 a2 c0 c1 c2 : Value}
theorem SureM.call (s : SureM W g h x0 x1 x2 x3 x4 x5 x6 a0 a1 a2 c0 c1 c2 w) (k : Below w.heap.size w w') : SureM W g h x0 x1 x2 x3 x4 x5 x6 a0 a1 a2 c0 c1 c2 w' := ⟨s.box.keep k, s.gx.call k, s.hx.call k⟩
theorem SureM.set3 (s : SureM W g h x0 x1 x2 x3 x4 x5 x6 a0 a1 a2 c0 c1 c2 w) (hg : W.heap.size + 1 < g) (hh : W.heap.size + 1 < h) {a b c : Value} : SureM W g h x0 x1 x2 x3 x4 x5 x6 a0 a1 a2 c0 c1 c2 (((w.setCell ⟨W.heap.size + 1, 0, none⟩ a).setCell ⟨W.heap.size + 1, 1, none⟩ b).setCell ⟨W.heap.size + 1, 2, none⟩ c) :=
  ⟨s.box.move (fun o => by rw [World.cell?_setCell_far _ _ _ _ (by simp), World.cell?_setCell_far _ _ _ _ (by simp), World.cell?_setCell_far _ _ _ _ (by simp)]), ((s.gx.setCell (by omega)).setCell (by omega)).setCell (by omega), ((s.hx.setCell (by omega)).setCell (by omega)).setCell (by omega)⟩
theorem SureM.facts (s : SureM W g h x0 x1 x2 x3 x4 x5 x6 a0 a1 a2 c0 c1 c2 w) : w.cell? ⟨W.heap.size, 0, none⟩ = some x0 ∧ w.cell? ⟨W.heap.size, 1, none⟩ = some x1 ∧ w.cell? ⟨g, 0, none⟩ = some a0 ∧ w.cell? ⟨g, 1, none⟩ = some a1 ∧ w.cell? ⟨g, 2, none⟩ = some a2 ∧ w.cell? ⟨h, 0, none⟩ = some c0 ∧ w.cell? ⟨h, 1, none⟩ = some c1 ∧ w.cell? ⟨h, 2, none⟩ = some c2 := by
  have A := s.box
  unfold At7 at A
  exact ⟨A.1, A.2.1, s.gx.2.1, s.gx.2.2.1, s.gx.2.2.2, s.hx.2.1, s.hx.2.2.1, s.hx.2.2.2⟩
end
/-- Behind the answer's three stores. -/
theorem SureR.done {W w w' : World} {x0 x1 x2 x3 x4 x5 x6 a b c : Value} (h : SureR W x0 x1 x2 x3 x4 x5 x6 w) (k : Below w.heap.size w w') : Below W.heap.size W (((w'.setCell ⟨W.heap.size + 1, 0, none⟩ a).setCell ⟨W.heap.size + 1, 1, none⟩ b).setCell ⟨W.heap.size + 1, 2, none⟩ c) :=
  (((bel_call h.b k).setCell (by simp) _).setCell (by simp) _).setCell (by simp) _
end Kn
end Go.Proofs.YtkiegiofholofaaGreatDoor
