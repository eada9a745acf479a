/-
  The program's memory: Load.
-/
import Derived.Test.YtjcdpdfchjhjhaaRmPc
import Derived.Laws.BitsAllLaws
namespace Go.Proofs.Ytjcdpdfchjhjhaa
open Go.RowKit
namespace Rm
set_option maxHeartbeats 1600000
set_option maxRecDepth 100000

theorem ld_snoc (f : Nat → Nat) : ∀ (i o : Nat), ld f o (i + 1) = 256 ^ i * f (o + i) + ld f o i
  | 0, o => by simp [ld]
  | i + 1, o => by
    rw [ld, ld_snoc f i (o + 1), ld, Nat.pow_succ, show o + 1 + i = o + (i + 1) by omega, Nat.mul_add, ← Nat.mul_assoc, Nat.mul_comm 256 (256 ^ i)]
    omega
theorem or_step {f : Nat → Nat} (h : By f) {i : Nat} (hi : i < 4) (o : Nat) : bits .or .u32 ((ld f o i : Nat) : Int) (((f (o + i) : Nat) : Int) * ((256 ^ i : Nat) : Int)) = ((ld f o (i + 1) : Nat) : Int) := by
  have a := ld_lt h i o
  have b := h (o + i)
  have c := ld_u32 h (show i + 1 ≤ 4 by omega) o
  have d := ld_snoc f i o
  have e : (256 : Nat) ^ i = 2 ^ (8 * i) := by rw [Nat.pow_mul]
  rw [← Int.natCast_mul, u32_or_nat _ _ (by omega) (by rw [Nat.mul_comm]; omega), d, Nat.or_comm, Nat.mul_comm, e, Nat.two_pow_add_eq_or_of_lt (by rw [← e]; exact a)]
theorem ret_or {x y : Int} (h : x = y) : Value.int .u32 x = .int .u32 y := by rw [h]
theorem load_any {W : World} {p b z c : Nat} {f : Nat → Nat} (h : PrAt W p b z c f) {a : Nat} (ha : a < 4294967296) (n : Int) : Calls Try.prog 12 #[.pointer (some ⟨p, 0, none⟩), .int .u32 ((a : Nat) : Int), .int .i64 n] W fun e w => e = .returned (.tuple #[.int .u32 ((ldP z f a n : Nat) : Int), .int .i64 ((erP z a n : Nat) : Int)]) ∧ W = w := by
  have HP := Lib.hid (piece_any h ha n)
  unfold pcP at HP
  unfold ldP
  by_cases he : erP z a n = 0
  · obtain ⟨k, rfl, hk, ha1, ha2⟩ := erP_yes he
    rw [if_pos he, he]
    rw [if_pos he, he] at HP
    have hz := h.le
    have HC := Lib.hid h.cs
    have HBY := Lib.hid h.by_
    obtain ⟨o, rfl⟩ : ∃ o, a = 4096 + o := ⟨a - 4096, by omega⟩
    rw [show 4096 + o - 4096 = o by omega, Int.toNat_natCast] at HP ⊢
    have o0 : (0 : Int) ≤ ((o : Nat) : Int) := by omega
    have hk4 : k ≤ 4 := by omega
    have HO := Lib.hid (fun i hi => or_step (i := i) h.by_ hi o)
    clear h he hk
    go_enter Try.func12, Try.ntmps12
    go_wp2_with fail
    refine HP.out.mono ?_
    rintro e w ⟨rfl, rfl⟩
    go_wp2_with fail
    go_loopg [10, 25] k (fun gk v10 v25 wr => ∃ i : Nat, v10 = .int .u32 ((ld f o i : Nat) : Int) ∧ v25 = .int .i64 ((i : Nat) : Int) ∧ i + gk = k ∧ W = wr)
    case atStart => exact ⟨0, rfl, rfl, by omega, rfl⟩
    case round =>
      obtain ⟨i, rfl, rfl, hg, rfl⟩ := hrel
      have HG := Lib.hid hg
      have i0 : (0 : Int) ≤ ((i : Nat) : Int) := by omega
      by_cases hlt : i < k
      · have g1 : decide (((i : Nat) : Int) < ((k : Nat) : Int)) = true := decide_eq_true (by omega)
        have hc : W.cell? ⟨b, o + i, none⟩ = some (.int .u8 ((f (o + i) : Nat) : Int)) := HC.out _ (by omega)
        have hb := HBY.out (o + i)
        have HL := Lib.hid (ld_u32 HBY.out (show i ≤ 4 by omega) o)
        obtain rfl | rfl | rfl | rfl : i = 0 ∨ i = 1 ∨ i = 2 ∨ i = 3 := by omega
        all_goals
          clear hg
          try simp only [Nat.add_zero] at hc hb
          go_wp2_with fail
          go_roundg (gk - 1)
          case' measure => have := HG.out; omega
          case' rel => first | exact ⟨1, ret_or (by simpa using HO.out 0 (by omega)), by go_num, by have := HG.out; omega, rfl⟩ | exact ⟨2, ret_or (by simpa using HO.out 1 (by omega)), by go_num, by have := HG.out; omega, rfl⟩ | exact ⟨3, ret_or (by simpa using HO.out 2 (by omega)), by go_num, by have := HG.out; omega, rfl⟩ | exact ⟨4, ret_or (by simpa using HO.out 3 (by omega)), by go_num, by have := HG.out; omega, rfl⟩
      · obtain rfl : i = k := by omega
        have g1 : decide (((i : Nat) : Int) < ((i : Nat) : Int)) = false := decide_eq_false (by omega)
        go_wp2_with fail
        go_ret2
        exact ⟨rfl, rfl⟩
  · rw [if_neg he]
    rw [if_neg he] at HP
    have g1 : ((((erP z a n : Nat) : Int)) != 0) = true := by rw [bne_iff_ne]; omega
    obtain ⟨x, hx⟩ : ∃ x, x = erP z a n := ⟨_, rfl⟩
    rw [← hx] at HP g1 ⊢
    clear h he hx
    go_enter Try.func12, Try.ntmps12
    go_wp2_with fail
    refine HP.out.mono ?_
    rintro e w ⟨rfl, rfl⟩
    go_wp2_with fail
    go_ret2
    exact ⟨rfl, rfl⟩
end Rm
end Go.Proofs.Ytjcdpdfchjhjhaa
