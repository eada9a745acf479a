/-
  The document's field of a word, and a number with its sign, walked.
-/
import Derived.Test.YtbgcgomefdblpaaDoorDeMore
import Derived.Laws.Bits64
import Derived.Laws.BitsLemmas
import Derived.BigQuiet
import Derived.IntWalk
import Derived.Lib.Walk
import Derived.Deep.LoopGhost
import Derived.Deep.QuietTactic
import Derived.Deep.Cut
import Derived.Deep.DeepMust
import Derived.Deep.CutRange
import Derived.Lib.Hide
import Derived.Laws.MakeOwn
namespace Go.Proofs.YtbgcgomefdblpaaDoor
open Go.RowKit
namespace De
set_option maxHeartbeats 1600000
set_option maxRecDepth 100000

theorem field_any {w lo n : Nat} (hw : w < 4294967296) (hlo : lo ≤ 32) (hn : n ≤ 32) (W : World) :
    Calls Tryd.prog 25 #[.int .u32 ((w : Nat) : Int), .int .i64 ((lo : Nat) : Int), .int .i64 ((n : Nat) : Int)] W fun e W' => e = .returned (.int .u32 ((fld w lo n : Nat) : Int)) ∧ W' = W := by
  have e0 : IntKind.u64.wrap ((w : Nat) : Int) = ((w : Nat) : Int) := by rw [IntKind.wrap_u64]; omega
  have HW := Lib.hid hw
  have HN := Lib.hid hn
  have HLO := Lib.hid hlo
  clear hw hn hlo
  go_enter Tryd.func25, Tryd.ntmps25
  go_wp2_with fail
  go_loopg [7, 8] lo (fun gk v7 v8 wr => ∃ i : Nat, v7 = .int .u64 ((w / 2 ^ i : Nat) : Int) ∧ v8 = .int .i64 ((i : Nat) : Int) ∧ i + gk = lo ∧ wr = W)
  case atStart => exact ⟨0, by simp, rfl, by omega, rfl⟩
  case round =>
    obtain ⟨i, rfl, rfl, hgk, rfl⟩ := hrel
    have HG := Lib.hid hgk
    by_cases hlt : i < lo
    · have g1 : ((i : Nat) : Int) < ((lo : Nat) : Int) := by omega
      have hq : w / 2 ^ i < 4294967296 := Nat.lt_of_le_of_lt (Nat.div_le_self _ _) HW.out
      have hs : w / 2 ^ i / 2 = w / 2 ^ (i + 1) := by rw [Nat.div_div_eq_div_mul, Nat.pow_succ]
      have HS := Lib.hid hs
      obtain ⟨x, hx⟩ : ∃ x, x = w / 2 ^ i := ⟨_, rfl⟩
      rw [← hx] at hq HS ⊢
      have HX := Lib.hid hx
      have hl33 : i < 33 := by have := HLO.out; omega
      clear hs hx hgk
      go_wp2_with fail
      go_roundg (gk - 1)
      case measure => have := HG.out; omega
      case rel => exact ⟨i + 1, by rw [← HS.out]; first | rfl | (congr 1; omega), by go_num, by have := HG.out; omega, rfl⟩
    · have g1 : decide (((i : Nat) : Int) < ((lo : Nat) : Int)) = false := decide_eq_false (by omega)
      obtain rfl : i = lo := by omega
      have hq : w / 2 ^ i < 4294967296 := Nat.lt_of_le_of_lt (Nat.div_le_self _ _) HW.out
      obtain ⟨x, hx⟩ : ∃ x, x = w / 2 ^ i := ⟨_, rfl⟩
      have HF : Hid (fld w i n = x % 2 ^ n) := Lib.hid (by rw [hx]; rfl)
      rw [← hx] at hq ⊢
      clear hx hgk hlt
      go_wp2_with fail
      go_loopg [9, 10] n (fun gk v9 v10 w2 => ∃ j : Nat, v9 = .int .u64 ((2 ^ j : Nat) : Int) ∧ v10 = .int .i64 ((j : Nat) : Int) ∧ j + gk = n ∧ w2 = wr)
      case atStart => exact ⟨0, by simp, rfl, by omega, rfl⟩
      case round =>
        obtain ⟨j, rfl, rfl, hgk, rfl⟩ := hrel
        have HGJ := Lib.hid hgk
        by_cases hlt : j < n
        · have g2 : ((j : Nat) : Int) < ((n : Nat) : Int) := by omega
          have hp : 2 ^ j < 8589934592 := Nat.pow_lt_pow_right (n := 33) (by decide) (by have := HN.out; omega)
          have hs : 2 * 2 ^ j = 2 ^ (j + 1) := by rw [Nat.pow_succ, Nat.mul_comm]
          have HS := Lib.hid hs
          obtain ⟨y, hy⟩ : ∃ y, y = 2 ^ j := ⟨_, rfl⟩
          rw [← hy] at hp HS ⊢
          have r1 : IntKind.u64.wrap (2 * ((y : Nat) : Int)) = ((2 * y : Nat) : Int) := by rw [IntKind.wrap_u64]; omega
          have hl33 : j < 33 := by have := HN.out; omega
          clear hs hy hgk
          go_wp2_with fail
          go_roundg (gk - 1)
          case measure => have := HGJ.out; omega
          case rel => exact ⟨j + 1, by rw [← HS.out]; first | rfl | (congr 1; omega), by go_num, by have := HGJ.out; omega, rfl⟩
        · have g2 : decide (((j : Nat) : Int) < ((n : Nat) : Int)) = false := decide_eq_false (by omega)
          obtain rfl : j = n := by omega
          have hp : 0 < 2 ^ j := Nat.two_pow_pos j
          have hlt2 : x % 2 ^ j < 4294967296 := Nat.lt_of_le_of_lt (Nat.mod_le _ _) hq
          obtain ⟨y, hy⟩ : ∃ y, y = 2 ^ j := ⟨_, rfl⟩
          rw [← hy] at hp hlt2 HF ⊢
          have y0 : (((y : Nat) : Int) == 0) = false := by simp; omega
          have r1 : IntKind.u32.wrap (((x : Nat) : Int).tmod ((y : Nat) : Int)) = ((x % y : Nat) : Int) := by
            rw [← Int.ofNat_tmod, IntKind.wrap_u32]; omega
          clear hy hgk
          go_wp2_with fail
          go_ret
          exact ⟨by rw [HF.out]; first | rfl | rw [r1], rfl⟩
theorem signed_any {v n : Nat} (hv : v < 4294967296) (hn1 : 1 ≤ n) (hn : n ≤ 32) (hvn : v < 2 ^ n) (W : World) :
    Calls Tryd.prog 26 #[.int .u32 ((v : Nat) : Int), .int .i64 ((n : Nat) : Int)] W fun e W' => e = .returned (.int .i32 (sgn v n)) ∧ W' = W := by
  have e0 : IntKind.i64.wrap ((v : Nat) : Int) = ((v : Nat) : Int) := by rw [IntKind.wrap_i64]; omega
  have HN := Lib.hid (And.intro hn1 hn)
  have HV := Lib.hid hvn
  clear hn hn1 hvn
  go_enter Tryd.func26, Tryd.ntmps26
  go_wp2_with fail
  go_loopg [5, 6] (n - 1) (fun gk v5 v6 wr => ∃ i : Nat, v5 = .int .i64 ((2 ^ (i - 1) : Nat) : Int) ∧ v6 = .int .i64 ((i : Nat) : Int) ∧ 1 ≤ i ∧ i + gk = n ∧ wr = W)
  case atStart => exact ⟨1, by simp, rfl, by omega, by have := HN.out; omega, rfl⟩
  case round =>
    obtain ⟨i, rfl, rfl, hi, hgk, rfl⟩ := hrel
    have HG := Lib.hid hgk
    have hp : 2 ^ (i - 1) < 4294967296 := Nat.pow_lt_pow_right (n := 32) (by decide) (by have := HN.out; omega)
    by_cases hlt : i < n
    · have g1 : ((i : Nat) : Int) < ((n : Nat) : Int) := by omega
      have hs : 2 * 2 ^ (i - 1) = 2 ^ i := by rw [Nat.mul_comm, ← Nat.pow_succ]; congr 1; omega
      have HS := Lib.hid hs
      have HI := Lib.hid hi
      obtain ⟨y, hy⟩ : ∃ y, y = 2 ^ (i - 1) := ⟨_, rfl⟩
      rw [← hy] at hp HS ⊢
      have r1 : wrap64 (2 * ((y : Nat) : Int)) = ((2 * y : Nat) : Int) := by unfold wrap64; omega
      have hl33 : i < 33 := by have := HN.out; omega
      clear hs hy hgk
      go_wp2_with fail
      go_roundg (gk - 1)
      case measure => have := HG.out; omega
      case rel => exact ⟨i + 1, by rw [Nat.add_sub_cancel, ← HS.out]; first | rfl | (congr 1; omega), by go_num, by omega, by have := HG.out; omega, rfl⟩
    · have g1 : decide (((i : Nat) : Int) < ((n : Nat) : Int)) = false := decide_eq_false (by omega)
      obtain rfl : i = n := by omega
      have hs : 2 * 2 ^ (i - 1) = 2 ^ i := by rw [Nat.mul_comm, ← Nat.pow_succ]; congr 1; omega
      have HS : Hid (sgn v i = (if v ≥ 2 ^ (i - 1) then ((v : Nat) : Int) - 2 * ((2 ^ (i - 1) : Nat) : Int) else ((v : Nat) : Int)) ∧ v < 2 * 2 ^ (i - 1)) := Lib.hid ⟨by unfold sgn; rw [Int.natCast_pow]; rfl, by rw [hs]; exact HV.out⟩
      obtain ⟨y, hy⟩ : ∃ y, y = 2 ^ (i - 1) := ⟨_, rfl⟩
      have hy2 : y ≤ 2147483648 := by rw [hy]; exact Nat.pow_le_pow_right (n := 2) (by decide) (show i - 1 ≤ 31 by have := HN.out; omega)
      rw [← hy] at hp HS ⊢
      clear hs hy hgk hlt
      by_cases hge : y ≤ v
      · have t1 : (((v : Nat) : Int) ≥ ((y : Nat) : Int)) := by omega
        have t2 : ((y : Nat) : Int) ≤ ((v : Nat) : Int) := by omega
        have r2 : wrap64 (2 * ((y : Nat) : Int)) = 2 * ((y : Nat) : Int) := by unfold wrap64; omega
        have hv2 := HS.out.2
        have r3 : wrap64 (((v : Nat) : Int) - 2 * ((y : Nat) : Int)) = ((v : Nat) : Int) - 2 * ((y : Nat) : Int) := by unfold wrap64; omega
        have r4 : IntKind.i32.wrap (((v : Nat) : Int) - 2 * ((y : Nat) : Int)) = ((v : Nat) : Int) - 2 * ((y : Nat) : Int) := by rw [IntKind.wrap_i32]; omega
        clear hv2
        go_wp2_with fail
        go_ret
        exact ⟨by rw [HS.out.1, if_pos hge]; rfl, rfl⟩
      · have t1 : decide (((v : Nat) : Int) ≥ ((y : Nat) : Int)) = false := decide_eq_false (by omega)
        have t2 : decide (((y : Nat) : Int) ≤ ((v : Nat) : Int)) = false := decide_eq_false (by omega)
        have r4 : IntKind.i32.wrap ((v : Nat) : Int) = ((v : Nat) : Int) := by rw [IntKind.wrap_i32]; omega
        go_wp2_with fail
        go_ret
        exact ⟨by rw [HS.out.1, if_neg hge]; rfl, rfl⟩
end De
end Go.Proofs.YtbgcgomefdblpaaDoor
