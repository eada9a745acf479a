/-
  LubyTells, LubySums, LubySteps, walked over Api.
-/
import Derived.Test.YtbkjmhpmaclbeaaLuLaws
namespace Go.Proofs.Ytbkjmhpmaclbeaa
open Go.RowKit
namespace Lu
set_option maxHeartbeats 3200000
set_option maxRecDepth 100000

theorem tells_no (A : Api) {n : Int} (hn : n < 1 ∨ 1099511627776 < n) {al : Option Addr} {T : List Int} {len cap : Nat} {W : World} (h : LiAt W al T) (hl : len = T.length) : Calls Try.prog 3 #[.int .i64 n, .slice al len cap] W fun e w => e = .returned (.bool true) ∧ Below W.heap.size W w := by
  have HA := Lib.hid A
  have HL := Lib.hid hl
  have HT := Lib.hid h
  have HN := Lib.hid (fun w => A.no n w hn)
  have HR := Lib.hid (fun w => rluby_no hn w)
  clear A hl h
  by_cases hlen : 200 < len
  · have g1 : decide (200 < ((len : Nat) : Int)) = true := decide_eq_true (by omega)
    have g2 : (200 : Int) < ((len : Nat) : Int) := by omega
    go_enter Try.func3, Try.ntmps3
    go_wp2_with fail
    refine (HN.out _).mono ?_
    rintro e w1 ⟨rfl, hb⟩
    have HB1 := Lib.hid (hb)
    clear hb
    go_wp2_with fail
    refine (HR.out _).mono ?_
    rintro e w1 ⟨rfl, rfl⟩
    go_wp2_with fail
    refine (lives_any HA.out _).mono ?_
    rintro e w9 ⟨rfl, hb⟩
    have HB9 := Lib.hid (bel_c HB1.out hb)
    clear hb
    go_wp2_with fail
    go_ret
    exact ⟨rfl, HB9.out⟩
  · have g1 : decide (200 < ((len : Nat) : Int)) = false := decide_eq_false (by omega)
    have g2 : ¬ (200 : Int) < ((len : Nat) : Int) := by omega
    go_enter Try.func3, Try.ntmps3
    go_wp2_with fail
    refine (HN.out _).mono ?_
    rintro e w1 ⟨rfl, hb⟩
    have HB1 := Lib.hid (hb)
    clear hb
    go_wp2_with fail
    refine (HR.out _).mono ?_
    rintro e w1 ⟨rfl, rfl⟩
    go_wp2_with fail
    refine (HA.out.lev _ _ T len cap (HT.out.call HB1.out) HL.out (by omega)).mono ?_
    rintro e w2 ⟨rfl, hb⟩
    have HB2 := Lib.hid (bel_c HB1.out hb)
    clear hb
    go_wp2_with fail
    refine (rlevels_any (HT.out.call HB2.out) HL.out (by omega)).mono ?_
    rintro e w3 ⟨rfl, q, rfl⟩
    have HB3 := Lib.hid (bel_q HB2.out q)
    go_wp2_with fail
    refine (lives_any HA.out _).mono ?_
    rintro e w9 ⟨rfl, hb⟩
    have HB9 := Lib.hid (bel_c HB3.out hb)
    clear hb
    go_wp2_with fail
    go_ret
    exact ⟨rfl, HB9.out⟩
theorem tells_yes (A : Api) {n : Nat} (h1 : 1 ≤ n) (h2 : n ≤ 1099511627776) {al : Option Addr} {T : List Int} {len cap : Nat} {W : World} (h : LiAt W al T) (hl : len = T.length) : Calls Try.prog 3 #[.int .i64 ((n : Nat) : Int), .slice al len cap] W fun e w => e = .returned (.bool true) ∧ Below W.heap.size W w := by
  have HA := Lib.hid A
  have HL := Lib.hid hl
  have HT := Lib.hid h
  have HN := Lib.hid (fun w => A.yes n w h1 h2)
  have HR := Lib.hid (fun w => rluby_yes n n w (Nat.le_refl _) h1 h2)
  clear A hl h
  by_cases hlen : 200 < len
  · have g1 : decide (200 < ((len : Nat) : Int)) = true := decide_eq_true (by omega)
    have g2 : (200 : Int) < ((len : Nat) : Int) := by omega
    go_enter Try.func3, Try.ntmps3
    go_wp2_with fail
    refine (HN.out _).mono ?_
    rintro e w1 ⟨rfl, hb⟩
    have HB1 := Lib.hid (hb)
    clear hb
    go_wp2_with fail
    refine (HR.out _).mono ?_
    rintro e w1 ⟨rfl, rfl⟩
    go_wp2_with fail
    refine (lives_any HA.out _).mono ?_
    rintro e w9 ⟨rfl, hb⟩
    have HB9 := Lib.hid (bel_c HB1.out hb)
    clear hb
    go_wp2_with fail
    go_ret
    exact ⟨rfl, HB9.out⟩
  · have g1 : decide (200 < ((len : Nat) : Int)) = false := decide_eq_false (by omega)
    have g2 : ¬ (200 : Int) < ((len : Nat) : Int) := by omega
    go_enter Try.func3, Try.ntmps3
    go_wp2_with fail
    refine (HN.out _).mono ?_
    rintro e w1 ⟨rfl, hb⟩
    have HB1 := Lib.hid (hb)
    clear hb
    go_wp2_with fail
    refine (HR.out _).mono ?_
    rintro e w1 ⟨rfl, rfl⟩
    go_wp2_with fail
    refine (HA.out.lev _ _ T len cap (HT.out.call HB1.out) HL.out (by omega)).mono ?_
    rintro e w2 ⟨rfl, hb⟩
    have HB2 := Lib.hid (bel_c HB1.out hb)
    clear hb
    go_wp2_with fail
    refine (rlevels_any (HT.out.call HB2.out) HL.out (by omega)).mono ?_
    rintro e w3 ⟨rfl, q, rfl⟩
    have HB3 := Lib.hid (bel_q HB2.out q)
    go_wp2_with fail
    refine (lives_any HA.out _).mono ?_
    rintro e w9 ⟨rfl, hb⟩
    have HB9 := Lib.hid (bel_c HB3.out hb)
    clear hb
    go_wp2_with fail
    go_ret
    exact ⟨rfl, HB9.out⟩
theorem tells_any (A : Api) (n : Int) {al : Option Addr} {T : List Int} {len cap : Nat} {W : World} (h : LiAt W al T) (hl : len = T.length) : Calls Try.prog 3 #[.int .i64 n, .slice al len cap] W fun e w => e = .returned (.bool true) ∧ Below W.heap.size W w := by
  by_cases hn : n < 1 ∨ 1099511627776 < n
  · exact tells_no A hn h hl
  · obtain ⟨k, rfl⟩ := Int.eq_ofNat_of_zero_le (a := n) (by omega)
    exact tells_yes A (n := k) (by omega) (by omega) h hl
theorem sums_low (A : Api) {n : Int} (hn : n < 0) (W : World) : Calls Try.prog 4 #[.int .i64 n] W fun e w => e = .returned (.bool true) ∧ Below W.heap.size W w := by
  have HA := Lib.hid A
  have HN := Lib.hid (fun w => A.sno n w (.inl hn))
  have HR := Lib.hid (fun w => rsum_no (.inl hn) w)
  have g1 : decide (3000 < n) = false := decide_eq_false (by omega)
  have g2 : ¬ 3000 < n := by omega
  clear A
  go_enter Try.func4, Try.ntmps4
  go_wp2_with fail
  refine (HN.out _).mono ?_
  rintro e w1 ⟨rfl, hb⟩
  have HB1 := Lib.hid (hb)
  clear hb
  go_wp2_with fail
  refine (HR.out _).mono ?_
  rintro e w1 ⟨rfl, rfl⟩
  go_wp2_with fail
  refine (lives_any HA.out _).mono ?_
  rintro e w9 ⟨rfl, hb⟩
  have HB9 := Lib.hid (bel_c HB1.out hb)
  clear hb
  go_wp2_with fail
  go_ret
  exact ⟨rfl, HB9.out⟩
theorem sums_high (A : Api) {n : Int} (hn : 1000000 < n) (W : World) : Calls Try.prog 4 #[.int .i64 n] W fun e w => e = .returned (.bool true) ∧ Below W.heap.size W w := by
  have HA := Lib.hid A
  have HN := Lib.hid (fun w => A.sno n w (.inr hn))
  have HR := Lib.hid (fun w => rsum_no (.inr hn) w)
  have g1 : decide (3000 < n) = true := decide_eq_true (by omega)
  have g2 : 3000 < n := by omega
  have g3 : decide (n ≤ 1000000) = false := decide_eq_false (by omega)
  have g4 : ¬ n ≤ 1000000 := by omega
  clear A
  go_enter Try.func4, Try.ntmps4
  go_wp2_with fail
  refine (HN.out _).mono ?_
  rintro e w1 ⟨rfl, hb⟩
  have HB1 := Lib.hid (hb)
  clear hb
  go_wp2_with fail
  refine (HR.out _).mono ?_
  rintro e w1 ⟨rfl, rfl⟩
  go_wp2_with fail
  refine (lives_any HA.out _).mono ?_
  rintro e w9 ⟨rfl, hb⟩
  have HB9 := Lib.hid (bel_c HB1.out hb)
  clear hb
  go_wp2_with fail
  go_ret
  exact ⟨rfl, HB9.out⟩
theorem sums_few (A : Api) {n : Nat} (hn : n ≤ 3000) (W : World) : Calls Try.prog 4 #[.int .i64 ((n : Nat) : Int)] W fun e w => e = .returned (.bool true) ∧ Below W.heap.size W w := by
  have HA := Lib.hid A
  have HN := Lib.hid (fun w => A.syes n w (by omega))
  have HR := Lib.hid (fun w => rsum_yes (n := n) (by omega) w)
  have g1 : decide (3000 < ((n : Nat) : Int)) = false := decide_eq_false (by omega)
  have g2 : ¬ 3000 < ((n : Nat) : Int) := by omega
  clear A
  go_enter Try.func4, Try.ntmps4
  go_wp2_with fail
  refine (HN.out _).mono ?_
  rintro e w1 ⟨rfl, hb⟩
  have HB1 := Lib.hid (hb)
  clear hb
  go_wp2_with fail
  refine (HR.out _).mono ?_
  rintro e w1 ⟨rfl, rfl⟩
  go_wp2_with fail
  refine (lives_any HA.out _).mono ?_
  rintro e w9 ⟨rfl, hb⟩
  have HB9 := Lib.hid (bel_c HB1.out hb)
  clear hb
  go_wp2_with fail
  go_ret
  exact ⟨rfl, HB9.out⟩
theorem sums_many (A : Api) {n : Int} (hn : 3000 < n) (hm : n ≤ 1000000) (W : World) : Calls Try.prog 4 #[.int .i64 n] W fun e w => e = .returned (.bool true) ∧ Below W.heap.size W w := by
  have HA := Lib.hid A
  have HN := Lib.hid (fun w => A.syes 3000 w (by omega))
  have HR := Lib.hid (fun w => rsum_yes (n := 3000) (by omega) w)
  have g1 : decide (3000 < n) = true := decide_eq_true (by omega)
  have g3 : decide (n ≤ 1000000) = true := decide_eq_true (by omega)
  clear A
  go_enter Try.func4, Try.ntmps4
  go_wp2_with fail
  refine (HN.out _).mono ?_
  rintro e w1 ⟨rfl, hb⟩
  have HB1 := Lib.hid (hb)
  clear hb
  go_wp2_with fail
  refine (HR.out _).mono ?_
  rintro e w1 ⟨rfl, rfl⟩
  go_wp2_with fail
  refine (lives_any HA.out _).mono ?_
  rintro e w9 ⟨rfl, hb⟩
  have HB9 := Lib.hid (bel_c HB1.out hb)
  clear hb
  go_wp2_with fail
  go_ret
  exact ⟨rfl, HB9.out⟩
theorem sums_any (A : Api) (n : Int) (W : World) : Calls Try.prog 4 #[.int .i64 n] W fun e w => e = .returned (.bool true) ∧ Below W.heap.size W w := by
  by_cases h0 : n < 0
  · exact sums_low A h0 W
  · by_cases h1 : 1000000 < n
    · exact sums_high A h1 W
    · by_cases h2 : 3000 < n
      · exact sums_many A h2 (by omega) W
      · obtain ⟨k, rfl⟩ := Int.eq_ofNat_of_zero_le (a := n) (by omega)
        exact sums_few A (n := k) (by omega) W
theorem steps_any (A : Api) {n : Nat} (hn : n < 65536) (W : World) : Calls Try.prog 5 #[.int .u16 ((n : Nat) : Int)] W fun e w => e = .returned (.bool true) ∧ Below W.heap.size W w := by
  have HA := Lib.hid A
  obtain ⟨k, hk⟩ : ∃ k, k = n % 2000 := ⟨_, rfl⟩
  have hk2 : k < 2000 := by omega
  have HK : Hid (((n : Nat) : Int) % 2000 = ((k : Nat) : Int)) := Lib.hid (by omega)
  have H1 := Lib.hid (fun w => A.syes k w (by omega))
  have H2 := Lib.hid (fun w => A.syes (k + 1) w (by omega))
  have H3 := Lib.hid (fun w => A.yes (k + 1) w (by omega) (by omega))
  have hs1 := sumL_le k
  have hs2 : k * (k + 1) ≤ 2000 * 2000 := Nat.mul_le_mul (by omega) (by omega)
  have hl := lub_le (n := k + 1) (by omega)
  have hsn : sumL (k + 1) = sumL k + lub (k + 1) := rfl
  obtain ⟨s, hs⟩ : ∃ s, s = sumL k := ⟨_, rfl⟩
  obtain ⟨x, hx⟩ : ∃ x, x = lub (k + 1) := ⟨_, rfl⟩
  rw [← hs] at H1 hs1 hsn
  rw [← hx] at H3 hl hsn
  rw [hsn] at H2
  have hsb : s ≤ 4000000 := by omega
  have hxb : x ≤ 2000 := by omega
  have n0 : (0 : Int) ≤ ((n : Nat) : Int) := by omega
  have n1 : ((n : Nat) : Int) < 65536 := by omega
  have k0 : (0 : Int) ≤ ((k : Nat) : Int) := by omega
  have kk : ((n : Nat) : Int) % 2000 = ((k : Nat) : Int) := HK.out
  clear A hk hs1 hs2 hl hsn hs hx
  go_enter Try.func5, Try.ntmps5
  go_wp2_with fail
  refine (H1.out _).mono ?_
  rintro e w1 ⟨rfl, hb⟩
  have HB1 := Lib.hid (hb)
  clear hb
  go_wp2_with fail
  refine (H2.out _).mono ?_
  rintro e w2 ⟨rfl, hb⟩
  have HB2 := Lib.hid (bel_c HB1.out hb)
  clear hb
  go_wp2_with fail
  refine (H3.out _).mono ?_
  rintro e w3 ⟨rfl, hb⟩
  have HB3 := Lib.hid (bel_c HB2.out hb)
  clear hb
  go_wp2_with fail
  refine (lives_any HA.out _).mono ?_
  rintro e w9 ⟨rfl, hb⟩
  have HB9 := Lib.hid (bel_c HB3.out hb)
  clear hb
  go_wp2_with fail
  go_ret
  exact ⟨rfl, HB9.out⟩
end Lu
end Go.Proofs.Ytbkjmhpmaclbeaa
