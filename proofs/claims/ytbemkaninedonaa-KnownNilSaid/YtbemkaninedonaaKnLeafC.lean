/-
  What shifts, choices and comparisons of layer known return, each as a fact on one call.
-/
import Derived.Test.YtbemkaninedonaaKnLeafB
import Derived.Deep.RegionWith
import Derived.Deep.RegionHeld3
import Derived.WalkSpells
import Derived.Test.YtbemkaninedonaaBvMid
namespace Go.Proofs.Ytbemkaninedonaa
open Go.RowKit Bv Tm
namespace Kn
set_option maxHeartbeats 300000
set_option maxRecDepth 100000

theorem klshr_any (w z o far : Nat) (h1 : 1 ≤ w) (h2 : w ≤ 64) (hz : z < 18446744073709551616) (ho : o < 18446744073709551616) (W : World) :
    Calls Try.prog 32 #[.int .u8 16, .agg #[.int .u8 ((w : Nat) : Int), .int .u64 ((z : Nat) : Int), .int .u64 ((o : Nat) : Int)], .int .u64 ((far : Nat) : Int)] W fun e W' => e = .returned (.agg #[.int .u8 ((w : Nat) : Int), .int .u64 (((shK 16 w (z, o) far).1 : Nat) : Int), .int .u64 (((shK 16 w (z, o) far).2 : Nat) : Int)]) ∧ Below W.heap.size W W' := by
  have hp := pow_le64 h2
  have l1 : z / 2 ^ min far 64 < 18446744073709551616 := Nat.lt_of_le_of_lt (Nat.div_le_self _ _) hz
  have l2 : o / 2 ^ min far 64 < 18446744073709551616 := Nat.lt_of_le_of_lt (Nat.div_le_self _ _) ho
  have l4 : (2 ^ w - 1) / 2 ^ min far 64 < 18446744073709551616 := Nat.lt_of_le_of_lt (Nat.div_le_self _ _) (Nat.lt_of_lt_of_le (Nat.sub_lt (pow_pos' w) (by decide)) hp)
  have l3 : 18446744073709551615 - (2 ^ w - 1) / 2 ^ min far 64 < 18446744073709551616 := Nat.lt_of_le_of_lt (Nat.sub_le _ _) (by decide)
  have e4 := not_int l4
  have e5 := bits_or_u64_nat _ _ l1 l3
  rw [← e4, ← shr_int, ← shr_int] at e5
  have EX := Lib.hid e5
  have EY := Lib.hid (shr_int o far)
  have HI : Hid ((if IntKind.u64.signed = true then (-1 : Int) else IntKind.u64.max) = IntKind.u64.max) := Lib.hid rfl
  have HM := Lib.hid (fun W => kmask_any w h1 h2 W)
  have HC := Lib.hid (fun x y ex ey W => kcut_of w x y _ _ h1 h2 (or_lt64 l1 l3) l2 ex ey W)
  clear hp hz ho l1 l2 l3 l4 e4 e5
  go_enter Try.func32, Try.ntmps32
  go_wp2_with fail
  go_region_held3 (fun w' => w'.cell? ⟨W.heap.size, 0, none⟩ = some (.int .u8 ((w : Nat) : Int)) ∧ w'.cell? ⟨W.heap.size, 1, none⟩ = some (.int .u64 ((z : Nat) : Int)) ∧ w'.cell? ⟨W.heap.size, 2, none⟩ = some (.int .u64 ((o : Nat) : Int)))
    (first | ((try dsimp only); (try go_split_ands); refine ⟨?_, ?_, ?_⟩ <;> (first | assumption | (simp [go_sem]; done))) | (go_keep; done))
    (first | (go_at_call 33; refine (HM.out _).mono ?_; rintro e w' ⟨rfl, rfl⟩) | (go_at_call 30; go_must (first | rw [HI.out, EX.out, EY.out] | rw [EX.out, EY.out]); go_must (with_reducible refine (HC.out _ _ rfl rfl _).mono ?_); rintro e w1 ⟨rfl, rfl⟩))
  all_goals go_wp2_with fail
  all_goals
    have e2 : shK 16 w (z, o) far = (low w (z / 2 ^ min far 64 ||| (18446744073709551615 - (2 ^ w - 1) / 2 ^ min far 64)), low w (o / 2 ^ min far 64)) := by unfold shK; rw [if_neg (by decide), if_pos rfl]
    rw [e2]
    generalize low w (z / 2 ^ min far 64 ||| (18446744073709551615 - (2 ^ w - 1) / 2 ^ min far 64)) = A
    generalize low w (o / 2 ^ min far 64) = B
    exact bodyPost_ret (v := .agg #[.int .u8 ((w : Nat) : Int), .int .u64 ((A : Nat) : Int), .int .u64 ((B : Nat) : Int)]) (by simp [results, Try.results32, go_sem]) rfl ⟨rfl, bel_alloc (bel_alloc (bel_alloc (Below.refl _ _) _) _).drew _⟩

theorem wo_lt {w n : Nat} (h1 : 1 ≤ w) (h2 : w ≤ 64) (hn : n < 2 ^ w) : -9223372036854775808 ≤ wo w n ∧ wo w n < 9223372036854775808 := by
  have h := pow_half h1
  have hp : 2 ^ (w - 1) ≤ 9223372036854775808 := by
    have := Nat.pow_le_pow_right (n := 2) (by omega) (show w - 1 ≤ 63 by omega)
    simpa using this
  unfold wo
  rw [h] at hn ⊢
  generalize 2 ^ (w - 1) = a at *
  split <;> omega

theorem kashr_any (w z o far : Nat) (h1 : 1 ≤ w) (h2 : w ≤ 64) (hz : z < 2 ^ w) (ho : o < 2 ^ w) (W : World) :
    Calls Try.prog 32 #[.int .u8 17, .agg #[.int .u8 ((w : Nat) : Int), .int .u64 ((z : Nat) : Int), .int .u64 ((o : Nat) : Int)], .int .u64 ((far : Nat) : Int)] W fun e W' => e = .returned (.agg #[.int .u8 ((w : Nat) : Int), .int .u64 (((shK 17 w (z, o) far).1 : Nat) : Int), .int .u64 (((shK 17 w (z, o) far).2 : Nat) : Int)]) ∧ Below W.heap.size W W' := by
  have u : ∀ n, IntKind.u64.wrap (wo w n / 2 ^ min far 64) = ((numB 17 w w n far : Nat) : Int) := fun n => by
    show _ = (((wo w n / 2 ^ min far 64) % 18446744073709551616).toNat : Int)
    rw [IntKind.wrap_u64]
    omega
  have U := Lib.hid u
  have l : ∀ n, numB 17 w w n far < 18446744073709551616 := fun n => by
    show ((wo w n / 2 ^ min far 64) % 18446744073709551616).toNat < _
    omega
  have HS := Lib.hid (fun W => kspread_any w z h1 h2 hz W)
  have HT := Lib.hid (fun W => kspread_any w o h1 h2 ho W)
  have HC := Lib.hid (fun x y ex ey W => kcut_of w x y _ _ h1 h2 (l z) (l o) ex ey W)
  clear u l hz ho
  go_enter Try.func32, Try.ntmps32
  go_wp2_with fail
  go_region_held3 (fun w' => w'.cell? ⟨W.heap.size, 0, none⟩ = some (.int .u8 ((w : Nat) : Int)) ∧ w'.cell? ⟨W.heap.size, 1, none⟩ = some (.int .u64 ((z : Nat) : Int)) ∧ w'.cell? ⟨W.heap.size, 2, none⟩ = some (.int .u64 ((o : Nat) : Int)))
    (first | ((try dsimp only); (try go_split_ands); refine ⟨?_, ?_, ?_⟩ <;> (first | assumption | (simp [go_sem]; done))) | (go_keep; done))
    (first | (go_at_call 34; first | (with_reducible refine (HS.out _).mono ?_; rintro e w' ⟨rfl, rfl⟩) | (with_reducible refine (HT.out _).mono ?_; rintro e w' ⟨rfl, rfl⟩)) | (go_at_call 30; go_must (rw [U.out, U.out]); go_must (with_reducible refine (HC.out _ _ rfl rfl _).mono ?_); rintro e w1 ⟨rfl, rfl⟩))
  all_goals go_wp2_with fail
  all_goals
    have e2 : shK 17 w (z, o) far = (low w (numB 17 w w z far), low w (numB 17 w w o far)) := by unfold shK; rw [if_neg (by decide), if_neg (by decide)]
    rw [e2]
    generalize low w (numB 17 w w z far) = A
    generalize low w (numB 17 w w o far) = B
    exact bodyPost_ret (v := .agg #[.int .u8 ((w : Nat) : Int), .int .u64 ((A : Nat) : Int), .int .u64 ((B : Nat) : Int)]) (by simp [results, Try.results32, go_sem]) rfl ⟨rfl, bel_alloc (bel_alloc (bel_alloc (Below.refl _ _) _) _).drew _⟩

end Kn
end Go.Proofs.Ytbemkaninedonaa
