/-
  The program's worth: the one of a number above 0.
-/
import Derived.Test.YtbkjmhpmaclbeaaLuBits
import Derived.Test.YtbkjmhpmaclbeaaLuShelf
import Derived.Test.YtbkjmhpmaclbeaaChecked
import Derived.Deep.LoopGhost
import Derived.IntWalk
import Derived.Lib.Hide
import Derived.Lib.Walk
namespace Go.Proofs.Ytbkjmhpmaclbeaa
open Go.RowKit
namespace Lu
set_option maxHeartbeats 1600000
set_option maxRecDepth 100000

theorem worth_any {n : Nat} (W : World) (h1 : 1 ≤ n) (h2 : n ≤ 2305843009213693951) : Calls Try.prog 14 #[.int .i64 ((n : Nat) : Int)] W fun e w => e = .returned (.int .i64 ((lub n : Nat) : Int)) ∧ W = w := by
  have H1 := Lib.hid h1
  have H2 := Lib.hid h2
  clear h1 h2
  go_enter Try.func14, Try.ntmps14
  go_wp2_with fail
  go_loopg [0] n (fun gk v0 wr => ∃ k : Nat, v0 = .int .i64 ((k : Nat) : Int) ∧ k = gk ∧ 1 ≤ k ∧ k ≤ n ∧ Hid (lub k = lub n) ∧ Hid (W = wr))
  case atStart => exact ⟨n, rfl, rfl, H1.out, Nat.le_refl _, Lib.hid rfl, Lib.hid rfl⟩
  case round =>
    obtain ⟨k, rfl, hk, k1, k2, HL, HW⟩ := hrel
    have HK := Lib.hid hk
    clear hk
    have h2 := H2.out
    have hlen : Lib.bitLen ((k : Int)).toNat = lg k + 1 := by rw [Int.toNat_natCast]; exact lg_len k1 (by omega)
    have hc := Try.bits_Len ((k : Nat) : Int) wr (by omega) (by omega)
    rw [hlen] at hc
    have l62 := lg_small k1 (by omega)
    have p1 := lg_le k1
    have p2 := lg_lt (n := k)
    have HF := Lib.hid (fun e => lub_full k1 e)
    have HR := Lib.hid (fun e => lub_less k1 e)
    obtain ⟨p, hp⟩ : ∃ p, p = tw (lg k) := ⟨_, rfl⟩
    have hpi : wrap64 ((2 : Int) ^ lg k) = ((p : Nat) : Int) := by
      have e : ((2 : Int) ^ lg k) = ((p : Nat) : Int) := by rw [hp]; unfold tw; simp
      rw [e]
      exact IntWalk.wrap64_in _ (by omega)
    rw [← hp] at p1 p2 HF HR
    clear hp
    have HC := Lib.hid hc
    have wu : IntKind.u64.wrap ((k : Nat) : Int) = ((k : Nat) : Int) := by rw [IntKind.wrap_u64]; omega
    clear hc hlen
    have w1 : wrap64 (((p : Nat) : Int) * 2) = ((p : Nat) : Int) * 2 := IntWalk.wrap64_in _ (by omega)
    have w2 : wrap64 (((p : Nat) : Int) * 2 - 1) = ((p : Nat) : Int) * 2 - 1 := IntWalk.wrap64_in _ (by omega)
    have w3 : wrap64 (((p : Nat) : Int) - 1) = ((p : Nat) : Int) - 1 := IntWalk.wrap64_in _ (by omega)
    have w4 : wrap64 (((k : Nat) : Int) - (((p : Nat) : Int) - 1)) = ((k : Nat) : Int) - (((p : Nat) : Int) - 1) := IntWalk.wrap64_in _ (by omega)
    clear h2
    by_cases he : k + 1 = 2 * p
    · have t1 : (((k : Nat) : Int) == ((p : Nat) : Int) * 2 - 1) = true := by simp; omega
      have HV : Hid (p = lub n) := Lib.hid ((HF.out he).symm.trans HL.out)
      clear he
      go_wp2_with fail
      refine (HC.out).mono ?_
      rintro e w' ⟨rfl, rfl⟩
      go_wp2_with fail
      go_ret
      refine ⟨?_, HW.out⟩
      show Ending.returned (.int .i64 (wrap64 ((2 : Int) ^ lg k))) = _
      rw [hpi, HV.out]
    · have t1 : (((k : Nat) : Int) == ((p : Nat) : Int) * 2 - 1) = false := by simp; omega
      have hr := HR.out (by omega)
      have HV : Hid (2 ≤ p ∧ lub (k - (p - 1)) = lub n) := Lib.hid ⟨hr.1, hr.2.symm.trans HL.out⟩
      clear he hr
      go_wp2_with fail
      refine (HC.out).mono ?_
      rintro e w' ⟨rfl, rfl⟩
      go_wp2_with fail
      go_roundg (k - (p - 1))
      case rel => exact ⟨k - (p - 1), by first | (simp only [w4]; congr 1; have := HV.out.1; omega) | (congr 1; have := HV.out.1; omega), rfl, by omega, by have := HV.out.1; omega, Lib.hid HV.out.2, HW⟩
      case measure => have := HV.out.1; have := HK.out; omega
end Lu
end Go.Proofs.Ytbkjmhpmaclbeaa
