/-
Plain facts that the statement on what fits together needs.
Whether a vector may be, as the program tells it, as a fact on the call.
What Extract, Extend and Ite of layer bv return where they refuse, and Ite whole.
-/
import Derived.Test.YtjinjddcnjcffaaDoorPt01
import Derived.Test.YtjinjddcnjcffaaDoorPt06
import Derived.Deep.RegionHeld3
namespace Go.Proofs.YtjinjddcnjcffaaDoor
open Go.RowKit
namespace Bv

theorem low_low (w n : Nat) : low w (low w n) = low w n := Nat.mod_mod _ _
theorem may_low {w : Nat} (h1 : 1 ≤ w) (h2 : w ≤ 64) (n : Nat) : mayB w (low w n) = true := mayB_mk h1 h2 (low_lt w n)
theorem may_one {w : Nat} (h1 : 1 ≤ w) (h2 : w ≤ 64) : mayB w 1 = true := mayB_mk h1 h2 (by have := pow_half h1; have := pow_pos' (w - 1); omega)

theorem low_add_left (w a b : Nat) : low w (low w a + b) = low w (a + b) := by unfold low; rw [Nat.mod_add_mod]
theorem low_add_right (w a b : Nat) : low w (a + low w b) = low w (a + b) := by unfold low; rw [Nat.add_mod_mod]

theorem low8 (w v a b : Nat) (h2 : w ≤ 64) : low w (numB 8 w v a b) = low w (a + b) := low_mod64 _ h2
theorem low9 (w v a b : Nat) (h2 : w ≤ 64) : low w (numB 9 w v a b) = low w (a + (18446744073709551616 - b)) := low_mod64 _ h2
theorem lowU4 (w a : Nat) (h2 : w ≤ 64) : low w (numU 4 a) = low w (18446744073709551616 - a) := low_mod64 _ h2

/-- Neg is Not and 1. -/
theorem neg_is {w n : Nat} (h2 : w ≤ 64) (hn : n < 18446744073709551616) : low w (numB 8 w w (low w (numU 3 n)) 1) = low w (numU 4 n) := by
  rw [low8 w w _ _ h2, lowU4 w _ h2, low_add_left]
  show low w (18446744073709551615 - n + 1) = _
  congr 1; omega
/-- Sub is Add of Neg. -/
theorem sub_is {w n m : Nat} (h2 : w ≤ 64) : low w (numB 8 w w n (low w (numU 4 m))) = low w (numB 9 w w n m) := by
  rw [low8 w w _ _ h2, low9 w w _ _ h2, lowU4 w _ h2, low_add_right]

theorem or_join {x m v : Nat} (hm : m < 2 ^ v) : x * 2 ^ v ||| m = x * 2 ^ v + m := by
  have := Nat.two_pow_add_eq_or_of_lt hm x
  rw [Nat.mul_comm] at this
  exact this.symm
/-- Concat is the first one above the second. -/
theorem concat_is {w v n m : Nat} (hr : w + v ≤ 64) (hn : n < 2 ^ w) (hm : m < 2 ^ v) : low (w + v) (numB 21 w v n m) = n * 2 ^ v + m := by
  have hl := pow_le64 hr
  have hlt : n * 2 ^ v + m < 2 ^ (w + v) := by
    rw [Nat.pow_add]
    have h1 : n * 2 ^ v + m < (n + 1) * 2 ^ v := by rw [Nat.succ_mul]; omega
    exact Nat.lt_of_lt_of_le h1 (Nat.mul_le_mul_right _ hn)
  show low (w + v) (n * 2 ^ v % 18446744073709551616 ||| m) = _
  rw [Nat.mod_eq_of_lt (by omega), or_join hm, low_self hlt]
theorem concat_lt {w v n m : Nat} (hn : n < 2 ^ w) (hm : m < 2 ^ v) : n * 2 ^ v + m < 2 ^ (w + v) := by
  rw [Nat.pow_add]
  have h1 : n * 2 ^ v + m < (n + 1) * 2 ^ v := by rw [Nat.succ_mul]; omega
  exact Nat.lt_of_lt_of_le h1 (Nat.mul_le_mul_right _ hn)
theorem concat_low {v n m : Nat} (hm : m < 2 ^ v) : low v ((n * 2 ^ v + m) / 2 ^ 0) = m := by
  unfold low
  rw [Nat.pow_zero, Nat.div_one, Nat.add_comm, Nat.add_mul_mod_self_right, Nat.mod_eq_of_lt hm]
theorem concat_high {w v n m : Nat} (hn : n < 2 ^ w) (hm : m < 2 ^ v) : low w ((n * 2 ^ v + m) / 2 ^ v) = n := by
  unfold low
  rw [Nat.mul_comm, Nat.mul_add_div (pow_pos' v), Nat.div_eq_of_lt hm, Nat.add_zero, Nat.mod_eq_of_lt hn]

theorem low64 {n : Nat} (hn : n < 18446744073709551616) : low 64 n = n := low_self (by simpa using hn)
theorem low_div0 {w n : Nat} (hn : n < 2 ^ w) : low w (n / 2 ^ 0) = n := by rw [Nat.pow_zero, Nat.div_one, low_self hn]
/-- A vector that is made wider with its sign begins with it. -/
theorem sext_low {w n : Nat} (h2 : w ≤ 64) (hn : n < 2 ^ w) : low w (numE 24 w n / 2 ^ 0) = n := by
  rw [Nat.pow_zero, Nat.div_one]
  show (wo w n % 18446744073709551616).toNat % 2 ^ w = n
  have hl := pow_le64 h2
  unfold wo
  split
  · rw [show ((n : Int) % 18446744073709551616).toNat = n by omega, Nat.mod_eq_of_lt hn]
  · have hs := pow_split h2
    have e : (((n : Int) - (2 ^ w : Nat)) % 18446744073709551616).toNat = n + (18446744073709551616 - 2 ^ w) := by omega
    rw [e]
    have e2 : 18446744073709551616 - 2 ^ w = 2 ^ w * (2 ^ (64 - w) - 1) := by rw [Nat.mul_sub, hs, Nat.mul_one]
    rw [e2, Nat.add_mul_mod_self_left, Nat.mod_eq_of_lt hn]
theorem sext_worth {w n : Nat} (h1 : 1 ≤ w) (h2 : w ≤ 64) (hn : n < 2 ^ w) : wrap64 (numE 24 w n : Int) = wo w n := by
  have hb := wo_bd h1 h2 hn
  show wrap64 (((wo w n % 18446744073709551616).toNat : Nat) : Int) = wo w n
  unfold wrap64
  omega

/-- One of less, greater, equal. -/
theorem one_of (w n m : Nat) : low 1 (numB 19 w w n m) + low 1 (numB 19 w w m n) + low 1 (numB 18 w w n m) = 1 := by
  show (decide (n < m)).toNat % 2 + (decide (m < n)).toNat % 2 + (n == m).toNat % 2 = 1
  rcases Nat.lt_trichotomy n m with h | h | h
  · have a : ¬ m < n := by omega
    have b : (n == m) = false := by simp; omega
    simp [h, a, b]
  · subst h; simp
  · have a : ¬ n < m := by omega
    have b : (n == m) = false := by simp; omega
    simp [h, a, b]
end Bv
end Go.Proofs.YtjinjddcnjcffaaDoor

namespace Go.Proofs.YtjinjddcnjcffaaDoor
open Go.RowKit
namespace Bv
set_option maxHeartbeats 1000000
set_option maxRecDepth 100000

theorem may_yes {w n : Nat} (h : mayB w n = true) (W : World) :
    Calls Tryd.prog 40 #[.agg #[.int .u8 w, .int .u64 n]] W fun e W' => e = .returned (.bool true) ∧ Below W.heap.size W W' := by
  have := may_any w n W; rw [h] at this; exact this
theorem may_no {w n : Nat} (h : mayB w n = false) (W : World) :
    Calls Tryd.prog 40 #[.agg #[.int .u8 w, .int .u64 n]] W fun e W' => e = .returned (.bool false) ∧ Below W.heap.size W W' := by
  have := may_any w n W; rw [h] at this; exact this

end Bv
end Go.Proofs.YtjinjddcnjcffaaDoor

namespace Go.Proofs.YtjinjddcnjcffaaDoor
open Go.RowKit
namespace Bv
set_option maxHeartbeats 400000
set_option maxRecDepth 100000

theorem extract_b1 (w n : Nat) (l r : Int) (HA : Hid (mayB w n = false)) (W : World) :
    Calls Tryd.prog 51 #[.agg #[.int .u8 w, .int .u64 n], .int .i64 l, .int .i64 r] W fun e W' => e = .returned (.tuple #[.agg #[.int .u8 0, .int .u64 0], .int .i64 2]) ∧ Below W.heap.size W W' := by
  go_enter Tryd.func51, Tryd.ntmps51
  go_wp2_with fail
  refine (may_no HA.out _).mono ?_; rintro e w1 ⟨rfl, hb1⟩
  have ka : At w1 (W.heap.size) (.int .u8 w) (.int .u64 n) := by have h0 := (((At.new _ _ _ _).alloc _)).keep hb1; simpa using h0
  have la := ka.lt
  have oa := ka
  unfold At at oa
  have kres : At w1 (W.heap.size + 1) (.int .u8 0) (.int .u64 0) := by have h0 := ((At.new _ _ _ _)).keep hb1; simpa using h0
  have lres := kres.lt
  have ores := kres
  unfold At at ores
  have fres : w1.frozen? ⟨W.heap.size + 1, 0, none⟩ = false ∧ w1.frozen? ⟨W.heap.size + 1, 1, none⟩ = false := by constructor <;> (rw [Below.frozen hb1 (by simp)]; simp [go_sem])
  go_wp2_with fail
  refine bodyPost_ret (v := .tuple #[.agg #[.int .u8 0, .int .u64 0], .int .i64 2]) (by simp [results, Tryd.results51, go_sem, ores]) rfl ⟨rfl, ?_⟩
  exact ((bel_call (bel_alloc (bel_alloc (Below.refl _ _) _) _) hb1).setCell (by first | (simp; done) | (simp; omega) | omega) _).setCell (by first | (simp; done) | (simp; omega) | omega) _

theorem extract_b2 (w n : Nat) (l r : Int) (HA : Hid (mayB w n = true)) (h : l < 0) (W : World) :
    Calls Tryd.prog 51 #[.agg #[.int .u8 w, .int .u64 n], .int .i64 l, .int .i64 r] W fun e W' => e = .returned (.tuple #[.agg #[.int .u8 0, .int .u64 0], .int .i64 2]) ∧ Below W.heap.size W W' := by
  go_enter Tryd.func51, Tryd.ntmps51
  go_wp2_with fail
  refine (may_yes HA.out _).mono ?_; rintro e w1 ⟨rfl, hb1⟩
  have ka : At w1 (W.heap.size) (.int .u8 w) (.int .u64 n) := by have h0 := (((At.new _ _ _ _).alloc _)).keep hb1; simpa using h0
  have la := ka.lt
  have oa := ka
  unfold At at oa
  have kres : At w1 (W.heap.size + 1) (.int .u8 0) (.int .u64 0) := by have h0 := ((At.new _ _ _ _)).keep hb1; simpa using h0
  have lres := kres.lt
  have ores := kres
  unfold At at ores
  have fres : w1.frozen? ⟨W.heap.size + 1, 0, none⟩ = false ∧ w1.frozen? ⟨W.heap.size + 1, 1, none⟩ = false := by constructor <;> (rw [Below.frozen hb1 (by simp)]; simp [go_sem])
  go_wp2_with fail
  refine bodyPost_ret (v := .tuple #[.agg #[.int .u8 0, .int .u64 0], .int .i64 2]) (by simp [results, Tryd.results51, go_sem, ores]) rfl ⟨rfl, ?_⟩
  exact ((bel_call (bel_alloc (bel_alloc (Below.refl _ _) _) _) hb1).setCell (by first | (simp; done) | (simp; omega) | omega) _).setCell (by first | (simp; done) | (simp; omega) | omega) _

theorem extract_b3 (w n : Nat) (l r : Int) (HA : Hid (mayB w n = true)) (h0 : 0 ≤ l) (h : r < 1) (W : World) :
    Calls Tryd.prog 51 #[.agg #[.int .u8 w, .int .u64 n], .int .i64 l, .int .i64 r] W fun e W' => e = .returned (.tuple #[.agg #[.int .u8 0, .int .u64 0], .int .i64 2]) ∧ Below W.heap.size W W' := by
  go_enter Tryd.func51, Tryd.ntmps51
  go_wp2_with fail
  refine (may_yes HA.out _).mono ?_; rintro e w1 ⟨rfl, hb1⟩
  have ka : At w1 (W.heap.size) (.int .u8 w) (.int .u64 n) := by have h0 := (((At.new _ _ _ _).alloc _)).keep hb1; simpa using h0
  have la := ka.lt
  have oa := ka
  unfold At at oa
  have kres : At w1 (W.heap.size + 1) (.int .u8 0) (.int .u64 0) := by have h0 := ((At.new _ _ _ _)).keep hb1; simpa using h0
  have lres := kres.lt
  have ores := kres
  unfold At at ores
  have fres : w1.frozen? ⟨W.heap.size + 1, 0, none⟩ = false ∧ w1.frozen? ⟨W.heap.size + 1, 1, none⟩ = false := by constructor <;> (rw [Below.frozen hb1 (by simp)]; simp [go_sem])
  go_wp2_with fail
  refine bodyPost_ret (v := .tuple #[.agg #[.int .u8 0, .int .u64 0], .int .i64 2]) (by simp [results, Tryd.results51, go_sem, ores]) rfl ⟨rfl, ?_⟩
  exact ((bel_call (bel_alloc (bel_alloc (Below.refl _ _) _) _) hb1).setCell (by first | (simp; done) | (simp; omega) | omega) _).setCell (by first | (simp; done) | (simp; omega) | omega) _

theorem extract_b4 (w n : Nat) (l r : Int) (HA : Hid (mayB w n = true)) (hw : w ≤ 64) (h0 : 0 ≤ l) (h1 : 1 ≤ r) (hr1 : r < 9223372036854775808) (h : (w : Int) - r < l) (W : World) :
    Calls Tryd.prog 51 #[.agg #[.int .u8 w, .int .u64 n], .int .i64 l, .int .i64 r] W fun e W' => e = .returned (.tuple #[.agg #[.int .u8 0, .int .u64 0], .int .i64 2]) ∧ Below W.heap.size W W' := by
  go_enter Tryd.func51, Tryd.ntmps51
  go_wp2_with fail
  refine (may_yes HA.out _).mono ?_; rintro e w1 ⟨rfl, hb1⟩
  have ka : At w1 (W.heap.size) (.int .u8 w) (.int .u64 n) := by have h0 := (((At.new _ _ _ _).alloc _)).keep hb1; simpa using h0
  have la := ka.lt
  have oa := ka
  unfold At at oa
  have kres : At w1 (W.heap.size + 1) (.int .u8 0) (.int .u64 0) := by have h0 := ((At.new _ _ _ _)).keep hb1; simpa using h0
  have lres := kres.lt
  have ores := kres
  unfold At at ores
  have fres : w1.frozen? ⟨W.heap.size + 1, 0, none⟩ = false ∧ w1.frozen? ⟨W.heap.size + 1, 1, none⟩ = false := by constructor <;> (rw [Below.frozen hb1 (by simp)]; simp [go_sem])
  go_wp2_with fail
  refine bodyPost_ret (v := .tuple #[.agg #[.int .u8 0, .int .u64 0], .int .i64 2]) (by simp [results, Tryd.results51, go_sem, ores]) rfl ⟨rfl, ?_⟩
  exact ((bel_call (bel_alloc (bel_alloc (Below.refl _ _) _) _) hb1).setCell (by first | (simp; done) | (simp; omega) | omega) _).setCell (by first | (simp; done) | (simp; omega) | omega) _

theorem extend_b1 (o w n : Nat) (r : Int) (HA : Hid (mayB w n = false)) (W : World) :
    Calls Tryd.prog 52 #[.int .u8 o, .agg #[.int .u8 w, .int .u64 n], .int .i64 r] W fun e W' => e = .returned (.tuple #[.agg #[.int .u8 0, .int .u64 0], .int .i64 2]) ∧ Below W.heap.size W W' := by
  go_enter Tryd.func52, Tryd.ntmps52
  go_wp2_with fail
  refine (may_no HA.out _).mono ?_; rintro e w1 ⟨rfl, hb1⟩
  have ka : At w1 (W.heap.size) (.int .u8 w) (.int .u64 n) := by have h0 := (((At.new _ _ _ _).alloc _)).keep hb1; simpa using h0
  have la := ka.lt
  have oa := ka
  unfold At at oa
  have kres : At w1 (W.heap.size + 1) (.int .u8 0) (.int .u64 0) := by have h0 := ((At.new _ _ _ _)).keep hb1; simpa using h0
  have lres := kres.lt
  have ores := kres
  unfold At at ores
  have fres : w1.frozen? ⟨W.heap.size + 1, 0, none⟩ = false ∧ w1.frozen? ⟨W.heap.size + 1, 1, none⟩ = false := by constructor <;> (rw [Below.frozen hb1 (by simp)]; simp [go_sem])
  go_wp2_with fail
  refine bodyPost_ret (v := .tuple #[.agg #[.int .u8 0, .int .u64 0], .int .i64 2]) (by simp [results, Tryd.results52, go_sem, ores]) rfl ⟨rfl, ?_⟩
  exact ((bel_call (bel_alloc (bel_alloc (Below.refl _ _) _) _) hb1).setCell (by first | (simp; done) | (simp; omega) | omega) _).setCell (by first | (simp; done) | (simp; omega) | omega) _

theorem extend_b2 (o w n : Nat) (r : Int) (HA : Hid (mayB w n = true)) (hw : w ≤ 64) (h : r < (w : Int)) (W : World) :
    Calls Tryd.prog 52 #[.int .u8 o, .agg #[.int .u8 w, .int .u64 n], .int .i64 r] W fun e W' => e = .returned (.tuple #[.agg #[.int .u8 0, .int .u64 0], .int .i64 2]) ∧ Below W.heap.size W W' := by
  go_enter Tryd.func52, Tryd.ntmps52
  go_wp2_with fail
  refine (may_yes HA.out _).mono ?_; rintro e w1 ⟨rfl, hb1⟩
  have ka : At w1 (W.heap.size) (.int .u8 w) (.int .u64 n) := by have h0 := (((At.new _ _ _ _).alloc _)).keep hb1; simpa using h0
  have la := ka.lt
  have oa := ka
  unfold At at oa
  have kres : At w1 (W.heap.size + 1) (.int .u8 0) (.int .u64 0) := by have h0 := ((At.new _ _ _ _)).keep hb1; simpa using h0
  have lres := kres.lt
  have ores := kres
  unfold At at ores
  have fres : w1.frozen? ⟨W.heap.size + 1, 0, none⟩ = false ∧ w1.frozen? ⟨W.heap.size + 1, 1, none⟩ = false := by constructor <;> (rw [Below.frozen hb1 (by simp)]; simp [go_sem])
  go_wp2_with fail
  refine bodyPost_ret (v := .tuple #[.agg #[.int .u8 0, .int .u64 0], .int .i64 2]) (by simp [results, Tryd.results52, go_sem, ores]) rfl ⟨rfl, ?_⟩
  exact ((bel_call (bel_alloc (bel_alloc (Below.refl _ _) _) _) hb1).setCell (by first | (simp; done) | (simp; omega) | omega) _).setCell (by first | (simp; done) | (simp; omega) | omega) _

theorem extend_b3 (o w n : Nat) (r : Int) (HA : Hid (mayB w n = true)) (hw : w ≤ 64) (h0 : (w : Int) ≤ r) (h : 64 < r) (W : World) :
    Calls Tryd.prog 52 #[.int .u8 o, .agg #[.int .u8 w, .int .u64 n], .int .i64 r] W fun e W' => e = .returned (.tuple #[.agg #[.int .u8 0, .int .u64 0], .int .i64 2]) ∧ Below W.heap.size W W' := by
  go_enter Tryd.func52, Tryd.ntmps52
  go_wp2_with fail
  refine (may_yes HA.out _).mono ?_; rintro e w1 ⟨rfl, hb1⟩
  have ka : At w1 (W.heap.size) (.int .u8 w) (.int .u64 n) := by have h0 := (((At.new _ _ _ _).alloc _)).keep hb1; simpa using h0
  have la := ka.lt
  have oa := ka
  unfold At at oa
  have kres : At w1 (W.heap.size + 1) (.int .u8 0) (.int .u64 0) := by have h0 := ((At.new _ _ _ _)).keep hb1; simpa using h0
  have lres := kres.lt
  have ores := kres
  unfold At at ores
  have fres : w1.frozen? ⟨W.heap.size + 1, 0, none⟩ = false ∧ w1.frozen? ⟨W.heap.size + 1, 1, none⟩ = false := by constructor <;> (rw [Below.frozen hb1 (by simp)]; simp [go_sem])
  go_wp2_with fail
  refine bodyPost_ret (v := .tuple #[.agg #[.int .u8 0, .int .u64 0], .int .i64 2]) (by simp [results, Tryd.results52, go_sem, ores]) rfl ⟨rfl, ?_⟩
  exact ((bel_call (bel_alloc (bel_alloc (Below.refl _ _) _) _) hb1).setCell (by first | (simp; done) | (simp; omega) | omega) _).setCell (by first | (simp; done) | (simp; omega) | omega) _

theorem extend_b4 (o w n : Nat) (r : Int) (HA : Hid (mayB w n = true)) (hw : w ≤ 64) (h0 : (w : Int) ≤ r) (h1 : r ≤ 64) (d3 : ((o : Int) == 23) = false) (d4 : ((o : Int) == 24) = false) (W : World) :
    Calls Tryd.prog 52 #[.int .u8 o, .agg #[.int .u8 w, .int .u64 n], .int .i64 r] W fun e W' => e = .returned (.tuple #[.agg #[.int .u8 0, .int .u64 0], .int .i64 2]) ∧ Below W.heap.size W W' := by
  go_enter Tryd.func52, Tryd.ntmps52
  go_wp2_with fail
  refine (may_yes HA.out _).mono ?_; rintro e w1 ⟨rfl, hb1⟩
  have ka : At w1 (W.heap.size) (.int .u8 w) (.int .u64 n) := by have h0 := (((At.new _ _ _ _).alloc _)).keep hb1; simpa using h0
  have la := ka.lt
  have oa := ka
  unfold At at oa
  have kres : At w1 (W.heap.size + 1) (.int .u8 0) (.int .u64 0) := by have h0 := ((At.new _ _ _ _)).keep hb1; simpa using h0
  have lres := kres.lt
  have ores := kres
  unfold At at ores
  have fres : w1.frozen? ⟨W.heap.size + 1, 0, none⟩ = false ∧ w1.frozen? ⟨W.heap.size + 1, 1, none⟩ = false := by constructor <;> (rw [Below.frozen hb1 (by simp)]; simp [go_sem])
  go_wp2_with fail
  refine bodyPost_ret (v := .tuple #[.agg #[.int .u8 0, .int .u64 0], .int .i64 2]) (by simp [results, Tryd.results52, go_sem, ores]) rfl ⟨rfl, ?_⟩
  exact ((bel_call (bel_alloc (bel_alloc (Below.refl _ _) _) _) hb1).setCell (by first | (simp; done) | (simp; omega) | omega) _).setCell (by first | (simp; done) | (simp; omega) | omega) _

theorem ite_b1 (cw cn w n v m : Nat) (HC : Hid (mayB cw cn = false)) (W : World) :
    Calls Tryd.prog 53 #[.agg #[.int .u8 cw, .int .u64 cn], .agg #[.int .u8 w, .int .u64 n], .agg #[.int .u8 v, .int .u64 m]] W fun e W' => e = .returned (.tuple #[.agg #[.int .u8 0, .int .u64 0], .int .i64 2]) ∧ Below W.heap.size W W' := by
  go_enter Tryd.func53, Tryd.ntmps53
  go_wp2_with fail
  refine (may_no HC.out _).mono ?_; rintro e w1 ⟨rfl, hb1⟩
  have kc : At w1 (W.heap.size) (.int .u8 cw) (.int .u64 cn) := by have h0 := (((((At.new _ _ _ _).alloc _).alloc _).alloc _)).keep hb1; simpa using h0
  have lc := kc.lt
  have oc := kc
  unfold At at oc
  have ka : At w1 (W.heap.size + 1) (.int .u8 w) (.int .u64 n) := by have h0 := ((((At.new _ _ _ _).alloc _).alloc _)).keep hb1; simpa using h0
  have la := ka.lt
  have oa := ka
  unfold At at oa
  have kb : At w1 (W.heap.size + 1 + 1) (.int .u8 v) (.int .u64 m) := by have h0 := (((At.new _ _ _ _).alloc _)).keep hb1; simpa using h0
  have lb := kb.lt
  have ob := kb
  unfold At at ob
  have kres : At w1 (W.heap.size + 1 + 1 + 1) (.int .u8 0) (.int .u64 0) := by have h0 := ((At.new _ _ _ _)).keep hb1; simpa using h0
  have lres := kres.lt
  have ores := kres
  unfold At at ores
  have fres : w1.frozen? ⟨W.heap.size + 1 + 1 + 1, 0, none⟩ = false ∧ w1.frozen? ⟨W.heap.size + 1 + 1 + 1, 1, none⟩ = false := by constructor <;> (rw [Below.frozen hb1 (by simp)]; simp [go_sem])
  go_wp2_with fail
  refine bodyPost_ret (v := .tuple #[.agg #[.int .u8 0, .int .u64 0], .int .i64 2]) (by simp [results, Tryd.results53, go_sem, ores]) rfl ⟨rfl, ?_⟩
  exact ((bel_call (bel_alloc (bel_alloc (bel_alloc (bel_alloc (Below.refl _ _) _) _) _) _) hb1).setCell (by first | (simp; done) | (simp; omega) | omega) _).setCell (by first | (simp; done) | (simp; omega) | omega) _

theorem ite_b2 (cw cn w n v m : Nat) (HC : Hid (mayB cw cn = true)) (HA : Hid (mayB w n = false)) (W : World) :
    Calls Tryd.prog 53 #[.agg #[.int .u8 cw, .int .u64 cn], .agg #[.int .u8 w, .int .u64 n], .agg #[.int .u8 v, .int .u64 m]] W fun e W' => e = .returned (.tuple #[.agg #[.int .u8 0, .int .u64 0], .int .i64 2]) ∧ Below W.heap.size W W' := by
  go_enter Tryd.func53, Tryd.ntmps53
  go_wp2_with fail
  refine (may_yes HC.out _).mono ?_; rintro e w1 ⟨rfl, hb1⟩
  have kc : At w1 (W.heap.size) (.int .u8 cw) (.int .u64 cn) := by have h0 := (((((At.new _ _ _ _).alloc _).alloc _).alloc _)).keep hb1; simpa using h0
  have lc := kc.lt
  have oc := kc
  unfold At at oc
  have ka : At w1 (W.heap.size + 1) (.int .u8 w) (.int .u64 n) := by have h0 := ((((At.new _ _ _ _).alloc _).alloc _)).keep hb1; simpa using h0
  have la := ka.lt
  have oa := ka
  unfold At at oa
  have kb : At w1 (W.heap.size + 1 + 1) (.int .u8 v) (.int .u64 m) := by have h0 := (((At.new _ _ _ _).alloc _)).keep hb1; simpa using h0
  have lb := kb.lt
  have ob := kb
  unfold At at ob
  have kres : At w1 (W.heap.size + 1 + 1 + 1) (.int .u8 0) (.int .u64 0) := by have h0 := ((At.new _ _ _ _)).keep hb1; simpa using h0
  have lres := kres.lt
  have ores := kres
  unfold At at ores
  have fres : w1.frozen? ⟨W.heap.size + 1 + 1 + 1, 0, none⟩ = false ∧ w1.frozen? ⟨W.heap.size + 1 + 1 + 1, 1, none⟩ = false := by constructor <;> (rw [Below.frozen hb1 (by simp)]; simp [go_sem])
  go_wp2_with fail
  refine (may_no HA.out _).mono ?_; rintro e w2 ⟨rfl, hb2⟩
  replace kc := kc.keep hb2
  replace lc := kc.lt
  replace oc := kc
  unfold At at oc
  replace ka := ka.keep hb2
  replace la := ka.lt
  replace oa := ka
  unfold At at oa
  replace kb := kb.keep hb2
  replace lb := kb.lt
  replace ob := kb
  unfold At at ob
  replace fres : w2.frozen? ⟨W.heap.size + 1 + 1 + 1, 0, none⟩ = false ∧ w2.frozen? ⟨W.heap.size + 1 + 1 + 1, 1, none⟩ = false := ⟨(Below.frozen hb2 (p := ⟨_, 0, none⟩) lres).trans fres.1, (Below.frozen hb2 (p := ⟨_, 1, none⟩) lres).trans fres.2⟩
  replace kres := kres.keep hb2
  replace lres := kres.lt
  replace ores := kres
  unfold At at ores
  go_wp2_with fail
  refine bodyPost_ret (v := .tuple #[.agg #[.int .u8 0, .int .u64 0], .int .i64 2]) (by simp [results, Tryd.results53, go_sem, ores]) rfl ⟨rfl, ?_⟩
  exact ((bel_call (bel_call (bel_alloc (bel_alloc (bel_alloc (bel_alloc (Below.refl _ _) _) _) _) _) hb1) hb2).setCell (by first | (simp; done) | (simp; omega) | omega) _).setCell (by first | (simp; done) | (simp; omega) | omega) _

theorem ite_b3 (cw cn w n v m : Nat) (HC : Hid (mayB cw cn = true)) (HA : Hid (mayB w n = true)) (HB : Hid (mayB v m = false)) (W : World) :
    Calls Tryd.prog 53 #[.agg #[.int .u8 cw, .int .u64 cn], .agg #[.int .u8 w, .int .u64 n], .agg #[.int .u8 v, .int .u64 m]] W fun e W' => e = .returned (.tuple #[.agg #[.int .u8 0, .int .u64 0], .int .i64 2]) ∧ Below W.heap.size W W' := by
  go_enter Tryd.func53, Tryd.ntmps53
  go_wp2_with fail
  refine (may_yes HC.out _).mono ?_; rintro e w1 ⟨rfl, hb1⟩
  have kc : At w1 (W.heap.size) (.int .u8 cw) (.int .u64 cn) := by have h0 := (((((At.new _ _ _ _).alloc _).alloc _).alloc _)).keep hb1; simpa using h0
  have lc := kc.lt
  have oc := kc
  unfold At at oc
  have ka : At w1 (W.heap.size + 1) (.int .u8 w) (.int .u64 n) := by have h0 := ((((At.new _ _ _ _).alloc _).alloc _)).keep hb1; simpa using h0
  have la := ka.lt
  have oa := ka
  unfold At at oa
  have kb : At w1 (W.heap.size + 1 + 1) (.int .u8 v) (.int .u64 m) := by have h0 := (((At.new _ _ _ _).alloc _)).keep hb1; simpa using h0
  have lb := kb.lt
  have ob := kb
  unfold At at ob
  have kres : At w1 (W.heap.size + 1 + 1 + 1) (.int .u8 0) (.int .u64 0) := by have h0 := ((At.new _ _ _ _)).keep hb1; simpa using h0
  have lres := kres.lt
  have ores := kres
  unfold At at ores
  have fres : w1.frozen? ⟨W.heap.size + 1 + 1 + 1, 0, none⟩ = false ∧ w1.frozen? ⟨W.heap.size + 1 + 1 + 1, 1, none⟩ = false := by constructor <;> (rw [Below.frozen hb1 (by simp)]; simp [go_sem])
  go_wp2_with fail
  refine (may_yes HA.out _).mono ?_; rintro e w2 ⟨rfl, hb2⟩
  replace kc := kc.keep hb2
  replace lc := kc.lt
  replace oc := kc
  unfold At at oc
  replace ka := ka.keep hb2
  replace la := ka.lt
  replace oa := ka
  unfold At at oa
  replace kb := kb.keep hb2
  replace lb := kb.lt
  replace ob := kb
  unfold At at ob
  replace fres : w2.frozen? ⟨W.heap.size + 1 + 1 + 1, 0, none⟩ = false ∧ w2.frozen? ⟨W.heap.size + 1 + 1 + 1, 1, none⟩ = false := ⟨(Below.frozen hb2 (p := ⟨_, 0, none⟩) lres).trans fres.1, (Below.frozen hb2 (p := ⟨_, 1, none⟩) lres).trans fres.2⟩
  replace kres := kres.keep hb2
  replace lres := kres.lt
  replace ores := kres
  unfold At at ores
  go_wp2_with fail
  refine (may_no HB.out _).mono ?_; rintro e w3 ⟨rfl, hb3⟩
  replace kc := kc.keep hb3
  replace lc := kc.lt
  replace oc := kc
  unfold At at oc
  replace ka := ka.keep hb3
  replace la := ka.lt
  replace oa := ka
  unfold At at oa
  replace kb := kb.keep hb3
  replace lb := kb.lt
  replace ob := kb
  unfold At at ob
  replace fres : w3.frozen? ⟨W.heap.size + 1 + 1 + 1, 0, none⟩ = false ∧ w3.frozen? ⟨W.heap.size + 1 + 1 + 1, 1, none⟩ = false := ⟨(Below.frozen hb3 (p := ⟨_, 0, none⟩) lres).trans fres.1, (Below.frozen hb3 (p := ⟨_, 1, none⟩) lres).trans fres.2⟩
  replace kres := kres.keep hb3
  replace lres := kres.lt
  replace ores := kres
  unfold At at ores
  go_wp2_with fail
  refine bodyPost_ret (v := .tuple #[.agg #[.int .u8 0, .int .u64 0], .int .i64 2]) (by simp [results, Tryd.results53, go_sem, ores]) rfl ⟨rfl, ?_⟩
  exact ((bel_call (bel_call (bel_call (bel_alloc (bel_alloc (bel_alloc (bel_alloc (Below.refl _ _) _) _) _) _) hb1) hb2) hb3).setCell (by first | (simp; done) | (simp; omega) | omega) _).setCell (by first | (simp; done) | (simp; omega) | omega) _

theorem ite_b4 (cw cn w n v m : Nat) (HC : Hid (mayB cw cn = true)) (HA : Hid (mayB w n = true)) (HB : Hid (mayB v m = true)) (h1 : ((cw : Int) != 1) = true) (W : World) :
    Calls Tryd.prog 53 #[.agg #[.int .u8 cw, .int .u64 cn], .agg #[.int .u8 w, .int .u64 n], .agg #[.int .u8 v, .int .u64 m]] W fun e W' => e = .returned (.tuple #[.agg #[.int .u8 0, .int .u64 0], .int .i64 2]) ∧ Below W.heap.size W W' := by
  go_enter Tryd.func53, Tryd.ntmps53
  go_wp2_with fail
  refine (may_yes HC.out _).mono ?_; rintro e w1 ⟨rfl, hb1⟩
  have kc : At w1 (W.heap.size) (.int .u8 cw) (.int .u64 cn) := by have h0 := (((((At.new _ _ _ _).alloc _).alloc _).alloc _)).keep hb1; simpa using h0
  have lc := kc.lt
  have oc := kc
  unfold At at oc
  have ka : At w1 (W.heap.size + 1) (.int .u8 w) (.int .u64 n) := by have h0 := ((((At.new _ _ _ _).alloc _).alloc _)).keep hb1; simpa using h0
  have la := ka.lt
  have oa := ka
  unfold At at oa
  have kb : At w1 (W.heap.size + 1 + 1) (.int .u8 v) (.int .u64 m) := by have h0 := (((At.new _ _ _ _).alloc _)).keep hb1; simpa using h0
  have lb := kb.lt
  have ob := kb
  unfold At at ob
  have kres : At w1 (W.heap.size + 1 + 1 + 1) (.int .u8 0) (.int .u64 0) := by have h0 := ((At.new _ _ _ _)).keep hb1; simpa using h0
  have lres := kres.lt
  have ores := kres
  unfold At at ores
  have fres : w1.frozen? ⟨W.heap.size + 1 + 1 + 1, 0, none⟩ = false ∧ w1.frozen? ⟨W.heap.size + 1 + 1 + 1, 1, none⟩ = false := by constructor <;> (rw [Below.frozen hb1 (by simp)]; simp [go_sem])
  go_wp2_with fail
  refine (may_yes HA.out _).mono ?_; rintro e w2 ⟨rfl, hb2⟩
  replace kc := kc.keep hb2
  replace lc := kc.lt
  replace oc := kc
  unfold At at oc
  replace ka := ka.keep hb2
  replace la := ka.lt
  replace oa := ka
  unfold At at oa
  replace kb := kb.keep hb2
  replace lb := kb.lt
  replace ob := kb
  unfold At at ob
  replace fres : w2.frozen? ⟨W.heap.size + 1 + 1 + 1, 0, none⟩ = false ∧ w2.frozen? ⟨W.heap.size + 1 + 1 + 1, 1, none⟩ = false := ⟨(Below.frozen hb2 (p := ⟨_, 0, none⟩) lres).trans fres.1, (Below.frozen hb2 (p := ⟨_, 1, none⟩) lres).trans fres.2⟩
  replace kres := kres.keep hb2
  replace lres := kres.lt
  replace ores := kres
  unfold At at ores
  go_wp2_with fail
  refine (may_yes HB.out _).mono ?_; rintro e w3 ⟨rfl, hb3⟩
  replace kc := kc.keep hb3
  replace lc := kc.lt
  replace oc := kc
  unfold At at oc
  replace ka := ka.keep hb3
  replace la := ka.lt
  replace oa := ka
  unfold At at oa
  replace kb := kb.keep hb3
  replace lb := kb.lt
  replace ob := kb
  unfold At at ob
  replace fres : w3.frozen? ⟨W.heap.size + 1 + 1 + 1, 0, none⟩ = false ∧ w3.frozen? ⟨W.heap.size + 1 + 1 + 1, 1, none⟩ = false := ⟨(Below.frozen hb3 (p := ⟨_, 0, none⟩) lres).trans fres.1, (Below.frozen hb3 (p := ⟨_, 1, none⟩) lres).trans fres.2⟩
  replace kres := kres.keep hb3
  replace lres := kres.lt
  replace ores := kres
  unfold At at ores
  go_wp2_with fail
  refine bodyPost_ret (v := .tuple #[.agg #[.int .u8 0, .int .u64 0], .int .i64 2]) (by simp [results, Tryd.results53, go_sem, ores]) rfl ⟨rfl, ?_⟩
  exact ((bel_call (bel_call (bel_call (bel_alloc (bel_alloc (bel_alloc (bel_alloc (Below.refl _ _) _) _) _) _) hb1) hb2) hb3).setCell (by first | (simp; done) | (simp; omega) | omega) _).setCell (by first | (simp; done) | (simp; omega) | omega) _

theorem ite_b5 (cw cn w n v m : Nat) (HC : Hid (mayB cw cn = true)) (HA : Hid (mayB w n = true)) (HB : Hid (mayB v m = true)) (h1 : ((cw : Int) != 1) = false) (h2 : ((w : Int) != (v : Int)) = true) (W : World) :
    Calls Tryd.prog 53 #[.agg #[.int .u8 cw, .int .u64 cn], .agg #[.int .u8 w, .int .u64 n], .agg #[.int .u8 v, .int .u64 m]] W fun e W' => e = .returned (.tuple #[.agg #[.int .u8 0, .int .u64 0], .int .i64 2]) ∧ Below W.heap.size W W' := by
  go_enter Tryd.func53, Tryd.ntmps53
  go_wp2_with fail
  refine (may_yes HC.out _).mono ?_; rintro e w1 ⟨rfl, hb1⟩
  have kc : At w1 (W.heap.size) (.int .u8 cw) (.int .u64 cn) := by have h0 := (((((At.new _ _ _ _).alloc _).alloc _).alloc _)).keep hb1; simpa using h0
  have lc := kc.lt
  have oc := kc
  unfold At at oc
  have ka : At w1 (W.heap.size + 1) (.int .u8 w) (.int .u64 n) := by have h0 := ((((At.new _ _ _ _).alloc _).alloc _)).keep hb1; simpa using h0
  have la := ka.lt
  have oa := ka
  unfold At at oa
  have kb : At w1 (W.heap.size + 1 + 1) (.int .u8 v) (.int .u64 m) := by have h0 := (((At.new _ _ _ _).alloc _)).keep hb1; simpa using h0
  have lb := kb.lt
  have ob := kb
  unfold At at ob
  have kres : At w1 (W.heap.size + 1 + 1 + 1) (.int .u8 0) (.int .u64 0) := by have h0 := ((At.new _ _ _ _)).keep hb1; simpa using h0
  have lres := kres.lt
  have ores := kres
  unfold At at ores
  have fres : w1.frozen? ⟨W.heap.size + 1 + 1 + 1, 0, none⟩ = false ∧ w1.frozen? ⟨W.heap.size + 1 + 1 + 1, 1, none⟩ = false := by constructor <;> (rw [Below.frozen hb1 (by simp)]; simp [go_sem])
  go_wp2_with fail
  refine (may_yes HA.out _).mono ?_; rintro e w2 ⟨rfl, hb2⟩
  replace kc := kc.keep hb2
  replace lc := kc.lt
  replace oc := kc
  unfold At at oc
  replace ka := ka.keep hb2
  replace la := ka.lt
  replace oa := ka
  unfold At at oa
  replace kb := kb.keep hb2
  replace lb := kb.lt
  replace ob := kb
  unfold At at ob
  replace fres : w2.frozen? ⟨W.heap.size + 1 + 1 + 1, 0, none⟩ = false ∧ w2.frozen? ⟨W.heap.size + 1 + 1 + 1, 1, none⟩ = false := ⟨(Below.frozen hb2 (p := ⟨_, 0, none⟩) lres).trans fres.1, (Below.frozen hb2 (p := ⟨_, 1, none⟩) lres).trans fres.2⟩
  replace kres := kres.keep hb2
  replace lres := kres.lt
  replace ores := kres
  unfold At at ores
  go_wp2_with fail
  refine (may_yes HB.out _).mono ?_; rintro e w3 ⟨rfl, hb3⟩
  replace kc := kc.keep hb3
  replace lc := kc.lt
  replace oc := kc
  unfold At at oc
  replace ka := ka.keep hb3
  replace la := ka.lt
  replace oa := ka
  unfold At at oa
  replace kb := kb.keep hb3
  replace lb := kb.lt
  replace ob := kb
  unfold At at ob
  replace fres : w3.frozen? ⟨W.heap.size + 1 + 1 + 1, 0, none⟩ = false ∧ w3.frozen? ⟨W.heap.size + 1 + 1 + 1, 1, none⟩ = false := ⟨(Below.frozen hb3 (p := ⟨_, 0, none⟩) lres).trans fres.1, (Below.frozen hb3 (p := ⟨_, 1, none⟩) lres).trans fres.2⟩
  replace kres := kres.keep hb3
  replace lres := kres.lt
  replace ores := kres
  unfold At at ores
  go_wp2_with fail
  refine bodyPost_ret (v := .tuple #[.agg #[.int .u8 0, .int .u64 0], .int .i64 2]) (by simp [results, Tryd.results53, go_sem, ores]) rfl ⟨rfl, ?_⟩
  exact ((bel_call (bel_call (bel_call (bel_alloc (bel_alloc (bel_alloc (bel_alloc (Below.refl _ _) _) _) _) _) hb1) hb2) hb3).setCell (by first | (simp; done) | (simp; omega) | omega) _).setCell (by first | (simp; done) | (simp; omega) | omega) _

theorem ite_a (cw cn w n v m : Nat) (HC : Hid (mayB cw cn = true)) (HA : Hid (mayB w n = true)) (HB : Hid (mayB v m = true)) (h1 : ((cw : Int) != 1) = false) (h2 : ((w : Int) != (v : Int)) = false) (h3 : ((cn : Int) == 1) = true) (W : World) :
    Calls Tryd.prog 53 #[.agg #[.int .u8 cw, .int .u64 cn], .agg #[.int .u8 w, .int .u64 n], .agg #[.int .u8 v, .int .u64 m]] W fun e W' => e = .returned (.tuple #[.agg #[.int .u8 w, .int .u64 n], .int .i64 0]) ∧ Below W.heap.size W W' := by
  go_enter Tryd.func53, Tryd.ntmps53
  go_wp2_with fail
  refine (may_yes HC.out _).mono ?_; rintro e w1 ⟨rfl, hb1⟩
  have kc : At w1 (W.heap.size) (.int .u8 cw) (.int .u64 cn) := by have h0 := (((((At.new _ _ _ _).alloc _).alloc _).alloc _)).keep hb1; simpa using h0
  have lc := kc.lt
  have oc := kc
  unfold At at oc
  have ka : At w1 (W.heap.size + 1) (.int .u8 w) (.int .u64 n) := by have h0 := ((((At.new _ _ _ _).alloc _).alloc _)).keep hb1; simpa using h0
  have la := ka.lt
  have oa := ka
  unfold At at oa
  have kb : At w1 (W.heap.size + 1 + 1) (.int .u8 v) (.int .u64 m) := by have h0 := (((At.new _ _ _ _).alloc _)).keep hb1; simpa using h0
  have lb := kb.lt
  have ob := kb
  unfold At at ob
  have kres : At w1 (W.heap.size + 1 + 1 + 1) (.int .u8 0) (.int .u64 0) := by have h0 := ((At.new _ _ _ _)).keep hb1; simpa using h0
  have lres := kres.lt
  have ores := kres
  unfold At at ores
  have fres : w1.frozen? ⟨W.heap.size + 1 + 1 + 1, 0, none⟩ = false ∧ w1.frozen? ⟨W.heap.size + 1 + 1 + 1, 1, none⟩ = false := by constructor <;> (rw [Below.frozen hb1 (by simp)]; simp [go_sem])
  go_wp2_with fail
  refine (may_yes HA.out _).mono ?_; rintro e w2 ⟨rfl, hb2⟩
  replace kc := kc.keep hb2
  replace lc := kc.lt
  replace oc := kc
  unfold At at oc
  replace ka := ka.keep hb2
  replace la := ka.lt
  replace oa := ka
  unfold At at oa
  replace kb := kb.keep hb2
  replace lb := kb.lt
  replace ob := kb
  unfold At at ob
  replace fres : w2.frozen? ⟨W.heap.size + 1 + 1 + 1, 0, none⟩ = false ∧ w2.frozen? ⟨W.heap.size + 1 + 1 + 1, 1, none⟩ = false := ⟨(Below.frozen hb2 (p := ⟨_, 0, none⟩) lres).trans fres.1, (Below.frozen hb2 (p := ⟨_, 1, none⟩) lres).trans fres.2⟩
  replace kres := kres.keep hb2
  replace lres := kres.lt
  replace ores := kres
  unfold At at ores
  go_wp2_with fail
  refine (may_yes HB.out _).mono ?_; rintro e w3 ⟨rfl, hb3⟩
  replace kc := kc.keep hb3
  replace lc := kc.lt
  replace oc := kc
  unfold At at oc
  replace ka := ka.keep hb3
  replace la := ka.lt
  replace oa := ka
  unfold At at oa
  replace kb := kb.keep hb3
  replace lb := kb.lt
  replace ob := kb
  unfold At at ob
  replace fres : w3.frozen? ⟨W.heap.size + 1 + 1 + 1, 0, none⟩ = false ∧ w3.frozen? ⟨W.heap.size + 1 + 1 + 1, 1, none⟩ = false := ⟨(Below.frozen hb3 (p := ⟨_, 0, none⟩) lres).trans fres.1, (Below.frozen hb3 (p := ⟨_, 1, none⟩) lres).trans fres.2⟩
  replace kres := kres.keep hb3
  replace lres := kres.lt
  replace ores := kres
  unfold At at ores
  go_wp2_with fail
  refine bodyPost_ret (v := .tuple #[.agg #[.int .u8 w, .int .u64 n], .int .i64 0]) (by simp [results, Tryd.results53, go_sem, ores]) rfl ⟨rfl, ?_⟩
  exact ((bel_call (bel_call (bel_call (bel_alloc (bel_alloc (bel_alloc (bel_alloc (Below.refl _ _) _) _) _) _) hb1) hb2) hb3).setCell (by first | (simp; done) | (simp; omega) | omega) _).setCell (by first | (simp; done) | (simp; omega) | omega) _

theorem ite_b (cw cn w n v m : Nat) (HC : Hid (mayB cw cn = true)) (HA : Hid (mayB w n = true)) (HB : Hid (mayB v m = true)) (h1 : ((cw : Int) != 1) = false) (h2 : ((w : Int) != (v : Int)) = false) (h3 : ((cn : Int) == 1) = false) (W : World) :
    Calls Tryd.prog 53 #[.agg #[.int .u8 cw, .int .u64 cn], .agg #[.int .u8 w, .int .u64 n], .agg #[.int .u8 v, .int .u64 m]] W fun e W' => e = .returned (.tuple #[.agg #[.int .u8 v, .int .u64 m], .int .i64 0]) ∧ Below W.heap.size W W' := by
  go_enter Tryd.func53, Tryd.ntmps53
  go_wp2_with fail
  refine (may_yes HC.out _).mono ?_; rintro e w1 ⟨rfl, hb1⟩
  have kc : At w1 (W.heap.size) (.int .u8 cw) (.int .u64 cn) := by have h0 := (((((At.new _ _ _ _).alloc _).alloc _).alloc _)).keep hb1; simpa using h0
  have lc := kc.lt
  have oc := kc
  unfold At at oc
  have ka : At w1 (W.heap.size + 1) (.int .u8 w) (.int .u64 n) := by have h0 := ((((At.new _ _ _ _).alloc _).alloc _)).keep hb1; simpa using h0
  have la := ka.lt
  have oa := ka
  unfold At at oa
  have kb : At w1 (W.heap.size + 1 + 1) (.int .u8 v) (.int .u64 m) := by have h0 := (((At.new _ _ _ _).alloc _)).keep hb1; simpa using h0
  have lb := kb.lt
  have ob := kb
  unfold At at ob
  have kres : At w1 (W.heap.size + 1 + 1 + 1) (.int .u8 0) (.int .u64 0) := by have h0 := ((At.new _ _ _ _)).keep hb1; simpa using h0
  have lres := kres.lt
  have ores := kres
  unfold At at ores
  have fres : w1.frozen? ⟨W.heap.size + 1 + 1 + 1, 0, none⟩ = false ∧ w1.frozen? ⟨W.heap.size + 1 + 1 + 1, 1, none⟩ = false := by constructor <;> (rw [Below.frozen hb1 (by simp)]; simp [go_sem])
  go_wp2_with fail
  refine (may_yes HA.out _).mono ?_; rintro e w2 ⟨rfl, hb2⟩
  replace kc := kc.keep hb2
  replace lc := kc.lt
  replace oc := kc
  unfold At at oc
  replace ka := ka.keep hb2
  replace la := ka.lt
  replace oa := ka
  unfold At at oa
  replace kb := kb.keep hb2
  replace lb := kb.lt
  replace ob := kb
  unfold At at ob
  replace fres : w2.frozen? ⟨W.heap.size + 1 + 1 + 1, 0, none⟩ = false ∧ w2.frozen? ⟨W.heap.size + 1 + 1 + 1, 1, none⟩ = false := ⟨(Below.frozen hb2 (p := ⟨_, 0, none⟩) lres).trans fres.1, (Below.frozen hb2 (p := ⟨_, 1, none⟩) lres).trans fres.2⟩
  replace kres := kres.keep hb2
  replace lres := kres.lt
  replace ores := kres
  unfold At at ores
  go_wp2_with fail
  refine (may_yes HB.out _).mono ?_; rintro e w3 ⟨rfl, hb3⟩
  replace kc := kc.keep hb3
  replace lc := kc.lt
  replace oc := kc
  unfold At at oc
  replace ka := ka.keep hb3
  replace la := ka.lt
  replace oa := ka
  unfold At at oa
  replace kb := kb.keep hb3
  replace lb := kb.lt
  replace ob := kb
  unfold At at ob
  replace fres : w3.frozen? ⟨W.heap.size + 1 + 1 + 1, 0, none⟩ = false ∧ w3.frozen? ⟨W.heap.size + 1 + 1 + 1, 1, none⟩ = false := ⟨(Below.frozen hb3 (p := ⟨_, 0, none⟩) lres).trans fres.1, (Below.frozen hb3 (p := ⟨_, 1, none⟩) lres).trans fres.2⟩
  replace kres := kres.keep hb3
  replace lres := kres.lt
  replace ores := kres
  unfold At at ores
  go_wp2_with fail
  refine bodyPost_ret (v := .tuple #[.agg #[.int .u8 v, .int .u64 m], .int .i64 0]) (by simp [results, Tryd.results53, go_sem, ores]) rfl ⟨rfl, ?_⟩
  exact ((bel_call (bel_call (bel_call (bel_alloc (bel_alloc (bel_alloc (bel_alloc (Below.refl _ _) _) _) _) _) hb1) hb2) hb3).setCell (by first | (simp; done) | (simp; omega) | omega) _).setCell (by first | (simp; done) | (simp; omega) | omega) _

end Bv
end Go.Proofs.YtjinjddcnjcffaaDoor
