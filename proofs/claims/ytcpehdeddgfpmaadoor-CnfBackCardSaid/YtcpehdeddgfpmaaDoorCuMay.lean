/-
  The program's May, as a fact on one call.
-/
import Derived.Test.YtcpehdeddgfpmaaDoorCuLeaf
import Derived.Test.YtcpehdeddgfpmaaDoorCfMay
namespace Go.Proofs.YtcpehdeddgfpmaaDoor
open Go.RowKit
namespace Cf
set_option maxHeartbeats 1000000
set_option maxRecDepth 100000

theorem cmay_any {W : World} {al : Option Addr} {C : Cl} {v : Int} {c : Nat} (h : ClsAt W al C) (hok : OkC C) :
    Calls Tryd.prog 11 #[.agg #[.int .i64 v, .slice al C.length c]] W fun e w => e = .returned (.bool (mayC v C)) ∧ Below W.heap.size W w := by
  by_cases hv0 : v < 0
  · have HE := Lib.hid (mayC_out (C := C) (v := v) (by unfold mayV; rw [decide_eq_false (by omega : ¬ 0 ≤ v)]; rfl))
    go_enter Tryd.func11, Tryd.ntmps11
    go_wp2_with fail
    go_ret
    exact ⟨ret_bool HE.out.symm, (Below.refl _ _).alloc (Nat.le_refl _) _⟩
  by_cases hv1 : 1000000 < v
  · have HE := Lib.hid (mayC_out (C := C) (v := v) (by unfold mayV; rw [decide_eq_false (by omega : ¬ v ≤ 1000000), Bool.and_false]))
    have hv0 : 0 ≤ v := by omega
    go_enter Tryd.func11, Tryd.ntmps11
    go_wp2_with fail
    go_ret
    exact ⟨ret_bool HE.out.symm, (Below.refl _ _).alloc (Nat.le_refl _) _⟩
  have hv0 : 0 ≤ v := by omega
  have hv1 : v ≤ 1000000 := by omega
  have HV : Hid (mayV v = true) := by show _ = _; unfold mayV; rw [decide_eq_true hv0, decide_eq_true hv1]; rfl
  obtain ⟨n, hn⟩ : ∃ n, n = C.length := ⟨_, rfl⟩
  have HCL := Lib.hid h
  have HN := Lib.hid hn
  have HOK := Lib.hid hok
  have hl := hok.n
  rw [← hn] at hl ⊢
  clear hn h hok
  go_enter Tryd.func11, Tryd.ntmps11
  go_wp2_with fail
  go_loopg [18] n (fun gk v3 wr => ∃ j q : Nat, v3 = .int .i64 ((j : Nat) : Int) ∧ j + gk = n ∧ wr = (W.alloc (.cells #[.int .i64 v, .slice al n c] 25)).drewN q ∧ (∀ (i : Nat), i < j → ∀ (k : List Int), C[i]? = some k → ∀ (j : Nat) (l : Int), k[j]? = some l → isL l v = true))
  case atStart => exact ⟨0, 0, rfl, by omega, rfl, fun q hq => by omega⟩
  case round =>
    obtain ⟨j, q, rfl, hj, rfl, hno⟩ := hrel
    obtain ⟨gO, hgO⟩ : ∃ gO, gO = gk := ⟨_, rfl⟩
    subst hgO
    have HJ := Lib.hid hj
    have HNO := Lib.hid hno
    have q0 : (0 : Int) ≤ ((j : Nat) : Int) := by omega
    by_cases hlt : j < n
    · obtain ⟨k, hk⟩ : ∃ k, C[j]? = some k := ⟨_, List.getElem?_eq_getElem (by rw [← HN.out]; exact hlt)⟩
      obtain ⟨bl, ol, kal, kc, rfl, hbl, hcell, hI⟩ := cls_at HCL.out hk
      have q1 : ((j : Nat) : Int) < ((n : Nat) : Int) := by omega
      have HS := Lib.hid (step_i (j := j) (by omega))
      have HK := Lib.hid hk
      have HI := Lib.hid hI
      have hkl := HOK.out.k k (List.mem_of_getElem? hk)
      obtain ⟨m, hm⟩ : ∃ m, m = k.length := ⟨_, rfl⟩
      have HM := Lib.hid hm
      rw [← hm] at hcell hkl
      clear hno hj hk hI hm
      go_wp2_with fail
      go_loopg [24] m (fun gk v4 wr => ∃ i q : Nat, v4 = .int .i64 ((i : Nat) : Int) ∧ i + gk = m ∧ wr = (W.alloc (.cells #[.int .i64 v, .slice (some ⟨bl, ol, none⟩) n c] 25)).drewN q ∧ (∀ j l, j < i → k[j]? = some l → isL l v = true))
      case atStart => exact ⟨0, q, rfl, by omega, rfl, fun q _ hq => by omega⟩
      case round =>
        obtain ⟨i, q2, rfl, hi, rfl, hyes⟩ := hrel
        have HI2 := Lib.hid hi
        have HY := Lib.hid hyes
        have p0 : (0 : Int) ≤ ((i : Nat) : Int) := by omega
        by_cases hlt2 : i < m
        · obtain ⟨l, hll⟩ : ∃ l, k[i]? = some l := ⟨_, List.getElem?_eq_getElem (by rw [← HM.out]; exact hlt2)⟩
          obtain ⟨kb, ko, rfl, hkb, hlc⟩ := ints_at HI.out hll
          have p1 : ((i : Nat) : Int) < ((m : Nat) : Int) := by omega
          have HL := Lib.hid hll
          have HS2 := Lib.hid (step_i (j := i) (by omega))
          have HIS := Lib.hid (fun (w : World) => lit_any (l := l) (W := w) hv0 hv1)
          clear hyes hi hll
          cases hil : isL l v with
          | true =>
            rw [hil] at HIS
            have HIL := Lib.hid hil
            clear hil
            go_wp2_with (go_at_call 27; refine (HIS.out _).mono ?_; rintro e w' ⟨rfl, rfl⟩)
            go_roundg (gk - 1)
            case measure => have := HI2.out; omega
            case rel => exact ⟨i + 1, _, by first | rfl | (rw [HS2.out.1]) | (congr 1; exact HS2.out.1), by have := HI2.out; omega, by first | rfl | (rw [World.drewN_drewN]), fun j' l' hj' hl' => by
              rcases Nat.lt_succ_iff_lt_or_eq.1 hj' with c | c
              · exact HY.out j' l' c hl'
              · rw [c, HL.out] at hl'; injection hl' with e; rw [← e]; exact HIL.out⟩
          | false =>
            rw [hil] at HIS
            have HIL := Lib.hid hil
            clear hil
            go_wp2_with (go_at_call 27; refine (HIS.out _).mono ?_; rintro e w' ⟨rfl, rfl⟩)
            go_ret
            exact ⟨ret_bool (mayC_at HK.out HL.out HIL.out).symm, by repeat (first | exact Below.refl _ _ | (refine bel_alloc ?_ _) | (refine bel_drewN ?_ _))⟩
        · have p1 : decide (((i : Nat) : Int) < ((m : Nat) : Int)) = false := decide_eq_false (by omega)
          obtain rfl : i = m := by omega
          clear hyes hi
          go_wp2_with fail
          go_roundg (gO - 1)
          case measure => have := HJ.out; omega
          case rel => exact ⟨j + 1, _, by first | rfl | (rw [HS.out.1]) | (congr 1; exact HS.out.1), by have := HJ.out; omega, rfl, fun i' hi' k' hk' j' l' hl' => by
            rcases Nat.lt_succ_iff_lt_or_eq.1 hi' with c | c
            · exact HNO.out i' c k' hk' j' l' hl'
            · rw [c, HK.out] at hk'
              injection hk' with e
              subst e
              exact HY.out j' l' (by rw [HM.out]; exact (List.getElem?_eq_some_iff.1 hl').1) hl'⟩
    · have q1 : decide (((j : Nat) : Int) < ((n : Nat) : Int)) = false := decide_eq_false (by omega)
      obtain rfl : j = n := by omega
      clear hno hj
      go_wp2_with fail
      go_ret
      exact ⟨ret_bool (mayC_all HV.out (by rw [← HN.out]; exact HNO.out)).symm, by repeat (first | exact Below.refl _ _ | (refine bel_alloc ?_ _) | (refine bel_drewN ?_ _))⟩
end Cf
end Go.Proofs.YtcpehdeddgfpmaaDoor
