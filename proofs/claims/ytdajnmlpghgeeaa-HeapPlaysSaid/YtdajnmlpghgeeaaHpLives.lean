/-
  The statements' own trial of a heap answers yes.
-/
import Derived.Test.YtdajnmlpghgeeaaHpMake
import Derived.Test.YtdajnmlpghgeeaaHpPopW
namespace Go.Proofs.Ytdajnmlpghgeeaa
open Go.RowKit
namespace Hp
set_option maxHeartbeats 1600000
set_option maxRecDepth 100000

theorem first_is {S T P : Nat → Nat} {n m v : Nat} (h : Ord S T m 1) (hf : Fit n m T P) (h1 : 1 ≤ v) (h2 : v ≤ n) (hp : P v ≠ 0) (hb : ∀ u, 1 ≤ u → u ≤ n → P u ≠ 0 → u ≠ v → aheadF S v u = true) : T 1 = v := by
  have hm : 1 ≤ m := by have := (hf.p v h1 h2).1; omega
  obtain ⟨a1, a2, a3⟩ := hf.t 1 (Nat.le_refl _) hm
  by_cases e : T 1 = v
  · exact e
  · have x1 := hb (T 1) a1 a2 (by rw [a3]; omega) e
    have x2 := first_of h hf h1 h2 hp (Ne.symm e)
    rw [ahead_asym x1] at x2; cases x2
theorem one_above : aboveF 4607182418800017408 0 = true := by decide +kernel
theorem zero_above : aboveF 0 0 = false := by decide +kernel
theorem one_sum : FloatKind.f64.format.add 0 4607182418800017408 = some 4607182418800017408 := by decide +kernel
theorem lives_any (W : World) : Calls Try.prog 9 #[] W fun e w => e = .returned (.bool true) ∧ Below W.heap.size W w := by
  go_enter Try.func9, Try.ntmps9
  go_wp2_with fail
  refine (new_yes (n := 3) (by omega) W).mono ?_
  rintro e w0 ⟨p, sb, tb, qb, T, P, rfl, h, hin, hbl, hp⟩
  have HB0 := Lib.hid hbl
  have HP := Lib.hid hp
  have HIN := Lib.hid hin
  have HBM := Lib.hid (bump_yes h (v := 2) (by omega) (by omega) 4607182418800017408)
  clear h hin hbl hp
  go_wp2_with fail
  refine HBM.out.mono ?_
  rintro e w1 ⟨rfl, r, T1, P1, hr, h1, hs1, ho1⟩
  have HR : Hid (r = 4607182418800017408) := Lib.hid (by
    rcases hr with hr | hr
    · rw [one_sum] at hr; injection hr with hr; exact hr.symm
    · rw [one_sum] at hr; cases hr.1)
  have HI1 : Hid (∀ v, 1 ≤ v → v ≤ 3 → P1 v ≠ 0) := Lib.hid (fun v a b e => HIN.out v a b ((hs1 v).2 e))
  have HS : Hid (∀ u, aheadF (upd (fun _ => 0) 2 r) 2 u = true ∨ u = 2) := Lib.hid (fun u => by
    by_cases e : u = 2
    · exact .inr e
    · left
      unfold aheadF
      rw [upd_at, upd_ne e, HR.out, one_above]; rfl)
  have hT : T1 1 = 2 := first_is h1.ord h1.fit (by omega) (by omega) (HI1.out 2 (by omega) (by omega)) (fun u _ _ _ hu => (HS.out u).resolve_right hu)
  have HPO := Lib.hid (pop_yes (m := 2) h1)
  rw [hT] at HPO
  have HO1 := Lib.hid ho1
  clear h1 hs1 ho1 hT hr
  go_wp2_with fail
  refine HPO.out.mono ?_
  rintro e w2 ⟨rfl, T2, P2, h2, hz2, hs2, ho2⟩
  have hT : T2 1 = 1 := first_is h2.ord h2.fit (by omega) (by omega) (fun e => HI1.out 1 (by omega) (by omega) ((hs2 1 (by omega) (by omega) (by omega)).2 e)) (fun u a b c hu => by
    have hu2 : u ≠ 2 := fun e => c (by rw [e]; exact hz2)
    unfold aheadF
    rw [upd_ne (by omega), upd_ne hu2, zero_above, decide_eq_true (by omega : 1 < u)]; rfl)
  have HPO2 := Lib.hid (pop_yes (m := 1) h2)
  rw [hT] at HPO2
  have HO2 := Lib.hid ho2
  clear h2 hz2 hs2 ho2 hT
  go_wp2_with fail
  refine HPO2.out.mono ?_
  rintro e w3 ⟨rfl, T3, P3, h3, hz3, hs3, ho3⟩
  have HL := Lib.hid (len_any h3.h)
  have HA := Lib.hid (fun w => above_any 0 0 w)
  rw [zero_above] at HA
  have HO3 := Lib.hid ho3
  clear h3 hz3 hs3 ho3
  go_wp2_with fail
  refine HL.out.mono ?_
  rintro e w3 ⟨rfl, rfl⟩
  go_wp2_with fail
  refine (HA.out _).mono ?_
  rintro e w3 ⟨rfl, rfl⟩
  go_wp2_with fail
  go_ret
  exact ⟨rfl, HB0.out.trans ((((HO1.out.trans HO2.out).trans HO3.out)).below (by have := HP.out; simp; omega) HB0.out.size)⟩
end Hp
end Go.Proofs.Ytdajnmlpghgeeaa
