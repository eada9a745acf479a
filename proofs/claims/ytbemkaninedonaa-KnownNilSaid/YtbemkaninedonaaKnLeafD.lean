/-
  What the comparison of layer known returns, and on how many kids a node hangs, each as a fact on one call.
-/
import Derived.Test.YtbemkaninedonaaKnLeafB
import Derived.Deep.QuietTactic
import Derived.BigQuiet
namespace Go.Proofs.Ytbemkaninedonaa
open Go.RowKit Bv Tm
namespace Kn
set_option maxHeartbeats 400000
set_option maxRecDepth 100000

theorem cut_10 (v : World) : Calls Try.prog 30 #[.int .u8 1, .int .u64 1, .int .u64 0] v fun e v' => e = .returned (.agg #[.int .u8 1, .int .u64 1, .int .u64 0]) ∧ v.alloc (.cells #[.int .u8 1, .int .u64 1, .int .u64 0] 64) = v' := by
  have h := kcut_any 1 1 0 (by omega) (by omega) (by omega) (by omega) v
  rw [show low 1 1 = 1 by decide, show low 1 0 = 0 by decide] at h
  exact h
theorem cut_01 (v : World) : Calls Try.prog 30 #[.int .u8 1, .int .u64 0, .int .u64 1] v fun e v' => e = .returned (.agg #[.int .u8 1, .int .u64 0, .int .u64 1]) ∧ v.alloc (.cells #[.int .u8 1, .int .u64 0, .int .u64 1] 64) = v' := by
  have h := kcut_any 1 0 1 (by omega) (by omega) (by omega) (by omega) v
  rw [show low 1 0 = 0 by decide, show low 1 1 = 1 by decide] at h
  exact h
theorem cut_00 (v : World) : Calls Try.prog 30 #[.int .u8 1, .int .u64 0, .int .u64 0] v fun e v' => e = .returned (.agg #[.int .u8 1, .int .u64 0, .int .u64 0]) ∧ v.alloc (.cells #[.int .u8 1, .int .u64 0, .int .u64 0] 64) = v' := by
  have h := kcut_any 1 0 0 (by omega) (by omega) (by omega) (by omega) v
  rw [show low 1 0 = 0 by decide] at h
  exact h

theorem ksame_any (w z0 o0 w1 z1 o1 : Nat) (h1 : 1 ≤ w) (h2 : w ≤ 64) (hz0 : z0 < 18446744073709551616) (ho0 : o0 < 18446744073709551616) (hz1 : z1 < 18446744073709551616) (ho1 : o1 < 18446744073709551616) (W : World) :
    Calls Try.prog 36 #[.agg #[.int .u8 ((w : Nat) : Int), .int .u64 ((z0 : Nat) : Int), .int .u64 ((o0 : Nat) : Int)], .agg #[.int .u8 ((w1 : Nat) : Int), .int .u64 ((z1 : Nat) : Int), .int .u64 ((o1 : Nat) : Int)]] W fun e W' => e = .returned (.agg #[.int .u8 1, .int .u64 (((eqK w (z0, o0) (z1, o1)).1 : Nat) : Int), .int .u64 (((eqK w (z0, o0) (z1, o1)).2 : Nat) : Int)]) ∧ Below W.heap.size W W' := by
  obtain ⟨P, hP⟩ : ∃ P, z0 &&& o1 = P := ⟨_, rfl⟩
  obtain ⟨Q, hQ⟩ : ∃ Q, o0 &&& z1 = Q := ⟨_, rfl⟩
  obtain ⟨A, hA⟩ : ∃ A, P ||| Q = A := ⟨_, rfl⟩
  obtain ⟨R, hR⟩ : ∃ R, z0 ||| o0 = R := ⟨_, rfl⟩
  obtain ⟨S, hS⟩ : ∃ S, z1 ||| o1 = S := ⟨_, rfl⟩
  obtain ⟨B, hB⟩ : ∃ B, R &&& S = B := ⟨_, rfl⟩
  obtain ⟨M, hM⟩ : ∃ M, 2 ^ w - 1 = M := ⟨_, rfl⟩
  have k1 : bits .and .u64 ((z0 : Nat) : Int) ((o1 : Nat) : Int) = ((P : Nat) : Int) := by rw [← hP]; exact bits_and_u64_nat z0 o1 hz0 ho1
  have k2 : bits .and .u64 ((o0 : Nat) : Int) ((z1 : Nat) : Int) = ((Q : Nat) : Int) := by rw [← hQ]; exact bits_and_u64_nat o0 z1 ho0 hz1
  have k3 : bits .or .u64 ((P : Nat) : Int) ((Q : Nat) : Int) = ((A : Nat) : Int) := by rw [← hA]; exact bits_or_u64_nat P Q (by rw [← hP]; exact and_lt64 _ hz0) (by rw [← hQ]; exact and_lt64 _ ho0)
  have k4 : bits .or .u64 ((z0 : Nat) : Int) ((o0 : Nat) : Int) = ((R : Nat) : Int) := by rw [← hR]; exact bits_or_u64_nat z0 o0 hz0 ho0
  have k5 : bits .or .u64 ((z1 : Nat) : Int) ((o1 : Nat) : Int) = ((S : Nat) : Int) := by rw [← hS]; exact bits_or_u64_nat z1 o1 hz1 ho1
  have k6 : bits .and .u64 ((R : Nat) : Int) ((S : Nat) : Int) = ((B : Nat) : Int) := by rw [← hB]; exact bits_and_u64_nat R S (by rw [← hR]; exact or_lt64 hz0 ho0) (by rw [← hS]; exact or_lt64 hz1 ho1)
  have HM : Hid (∀ v, Calls Try.prog 33 #[.int .u8 ((w : Nat) : Int)] v fun e v' => e = .returned (.int .u64 ((M : Nat) : Int)) ∧ v = v') := Lib.hid (fun v => by rw [← hM]; exact kmask_any w h1 h2 v)
  have HC1 : Hid (∀ v, Calls Try.prog 30 #[.int .u8 1, .int .u64 1, .int .u64 0] v fun e v' => e = .returned (.agg #[.int .u8 1, .int .u64 1, .int .u64 0]) ∧ v.alloc (.cells #[.int .u8 1, .int .u64 1, .int .u64 0] 64) = v') := Lib.hid (cut_10)
  have HC2 : Hid (∀ v, Calls Try.prog 30 #[.int .u8 1, .int .u64 0, .int .u64 1] v fun e v' => e = .returned (.agg #[.int .u8 1, .int .u64 0, .int .u64 1]) ∧ v.alloc (.cells #[.int .u8 1, .int .u64 0, .int .u64 1] 64) = v') := Lib.hid (cut_01)
  have HC3 : Hid (∀ v, Calls Try.prog 30 #[.int .u8 1, .int .u64 0, .int .u64 0] v fun e v' => e = .returned (.agg #[.int .u8 1, .int .u64 0, .int .u64 0]) ∧ v.alloc (.cells #[.int .u8 1, .int .u64 0, .int .u64 0] 64) = v') := Lib.hid (cut_00)
  have HK : Hid (eqK w (z0, o0) (z1, o1) = if ¬ A = 0 then (1, 0) else if B = M then (0, 1) else (0, 0)) := Lib.hid (by unfold eqK; simp only [hP, hQ, hA, hR, hS, hB, hM])
  clear hP hQ hA hR hS hB hM hz0 ho0 hz1 ho1
  by_cases c1 : A = 0
  case neg =>
    have d1 : (((A : Nat) : Int) != 0) = true := by simp; omega
    have d2 : ¬ ((A : Nat) : Int) = 0 := by omega
    rw [HK.out, if_pos c1]
    go_enter Try.func36, Try.ntmps36
    go_wp2_with (go_at_call 30; refine (HC1.out _).mono ?_; rintro e w1 ⟨rfl, rfl⟩)
    exact bodyPost_ret (v := .agg #[.int .u8 1, .int .u64 1, .int .u64 0]) (by simp [results, Try.results36, go_sem]) rfl ⟨rfl, bel_alloc (bel_alloc (bel_alloc (bel_alloc (Below.refl _ _) _) _) _) _⟩
  case pos =>
    have HA := Lib.hid c1
    subst c1
    by_cases c2 : B = M
    case pos =>
      have HB := Lib.hid c2
      rw [HK.out, if_neg (by simp), if_pos c2]
      subst c2
      go_enter Try.func36, Try.ntmps36
      go_wp2_with fail
      go_quiet ((go_at_call 33; exact Calls.quiet_of_same ((HM.out _).mono fun _ _ h => ⟨h.1, h.2.symm⟩)))
      go_wp2_with (go_at_call 30; refine (HC2.out _).mono ?_; rintro e w1 ⟨rfl, rfl⟩)
      exact bodyPost_ret (v := .agg #[.int .u8 1, .int .u64 0, .int .u64 1]) (by simp [results, Try.results36, go_sem]) rfl ⟨rfl, bel_alloc ((((bel_drewN (bel_alloc (bel_alloc (bel_alloc (Below.refl _ _) _) _) _) _).setCell (by simp; omega) _).setCell (by simp; omega) _).setCell (by simp; omega) _) _⟩
    case neg =>
      have d3 : (((B : Nat) : Int) == ((M : Nat) : Int)) = false := by rw [beq_eq_false_iff_ne]; omega
      have d4 : ¬ ((B : Nat) : Int) = ((M : Nat) : Int) := by omega
      rw [HK.out, if_neg (by simp), if_neg c2]
      clear c2
      go_enter Try.func36, Try.ntmps36
      go_wp2_with fail
      go_quiet ((go_at_call 33; exact Calls.quiet_of_same ((HM.out _).mono fun _ _ h => ⟨h.1, h.2.symm⟩)))
      go_wp2_with (go_at_call 30; refine (HC3.out _).mono ?_; rintro e w1 ⟨rfl, rfl⟩)
      exact bodyPost_ret (v := .agg #[.int .u8 1, .int .u64 0, .int .u64 0]) (by simp [results, Try.results36, go_sem]) rfl ⟨rfl, bel_alloc ((((bel_drewN (bel_alloc (bel_alloc (bel_alloc (Below.refl _ _) _) _) _) _).setCell (by simp; omega) _).setCell (by simp; omega) _).setCell (by simp; omega) _) _⟩
end Kn
end Go.Proofs.Ytbemkaninedonaa
