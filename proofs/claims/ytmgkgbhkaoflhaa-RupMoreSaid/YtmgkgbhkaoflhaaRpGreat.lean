/-
  Is it greater than what is gone through?
-/
import Derived.Test.YtmgkgbhkaoflhaaRpHoldB
namespace Go.Proofs.Ytmgkgbhkaoflhaa
open Go.RowKit
namespace Rp
open Cf
set_option maxHeartbeats 1600000
set_option maxRecDepth 100000

def greatR (C L : Cl) : Bool := decide (300 < C.flatten.length) || (decide (300 < C.flatten.length + L.flatten.length) || decide (100 < C.length + L.length))
theorem greatR_no {C L : Cl} (h : greatR C L = false) : C.flatten.length + L.flatten.length ≤ 300 ∧ C.length + L.length ≤ 100 := by
  unfold greatR at h
  simp only [Bool.or_eq_false_iff, decide_eq_false_iff_not] at h
  omega
theorem great_l {C L : Cl} {j : Nat} (h : 300 < (C.take j).flatten.length) : greatR C L = true := by
  have := flat_le C j
  unfold greatR
  rw [decide_eq_true (by omega)]; rfl
theorem great_r {C L : Cl} {j : Nat} (h : 300 < C.flatten.length + (L.take j).flatten.length) : greatR C L = true := by
  have := flat_le L j
  unfold greatR
  rw [decide_eq_true (by omega : 300 < C.flatten.length + L.flatten.length)]; simp
theorem great_end {C L : Cl} (h1 : C.flatten.length ≤ 300) (h2 : C.flatten.length + L.flatten.length ≤ 300) : greatR C L = decide (100 < C.length + L.length) := by
  unfold greatR
  rw [decide_eq_false (by omega), decide_eq_false (by omega)]; simp
theorem great_any {W : World} {al ll : Option Addr} {C L : Cl} {v : Int} {n c ln lc : Nat} (h : ClsAt W al C) (hn : n = C.length) (hok : OkC C) (hL : ClsAt W ll L) (hln : ln = L.length) (hokL : OkC L) :
    Calls Try.prog 7 #[.agg #[.int .i64 v, .slice al n c], .slice ll ln lc] W fun e w => e = .returned (.bool (greatR C L)) ∧ W.alloc (.cells #[.int .i64 v, .slice al n c] 24) = w := by
  have HC := Lib.hid (h.keep (bel_alloc (Below.refl W.heap.size W) (.cells #[.int .i64 v, .slice al n c] 24)))
  have HLS := Lib.hid (hL.keep (bel_alloc (Below.refl W.heap.size W) (.cells #[.int .i64 v, .slice al n c] 24)))
  have HN := Lib.hid hn
  have HLN := Lib.hid hln
  have HOK := Lib.hid hok
  have HOKL := Lib.hid hokL
  have hcn := hok.n
  rw [← hn] at hcn
  have hlnb := hokL.n
  rw [← hln] at hlnb
  clear h hn hok hL hln hokL
  go_enter Try.func7, Try.ntmps7
  go_wp2_with fail
  have hbx : (W.alloc (.cells #[.int .i64 v, .slice al n c] 24)).cell? ⟨W.heap.size, 1, none⟩ = some (.slice al n c) := new_cell _ _ _ _
  generalize hU : W.alloc (.cells #[.int .i64 v, .slice al n c] 24) = U at *
  have HUE := Lib.hid hU
  clear hU
  go_loopg [5, 6] n (fun gk v5 v6 wr => ∃ i s : Nat, v5 = .int .i64 ((s : Nat) : Int) ∧ v6 = .int .i64 ((i : Nat) : Int) ∧ i + gk = n ∧ s ≤ 300 ∧ Hid (s = (C.take i).flatten.length) ∧ U = wr)
  case atStart => exact ⟨0, 0, rfl, rfl, by omega, by omega, Lib.hid rfl, rfl⟩
  case round =>
    obtain ⟨i, s, rfl, rfl, hg, hs, HA, rfl⟩ := hrel
    have HG := Lib.hid hg
    have i0 : (0 : Int) ≤ ((i : Nat) : Int) := by omega
    have s0 : (0 : Int) ≤ ((s : Nat) : Int) := by omega
    by_cases hlt : i < n
    · have g1 : decide (((i : Nat) : Int) < ((n : Nat) : Int)) = true := decide_eq_true (by omega)
      have g2 : ((i : Nat) : Int) < ((n : Nat) : Int) := by omega
      obtain ⟨k, hk⟩ : ∃ k, C[i]? = some k := ⟨_, List.getElem?_eq_getElem (by rw [← HN.out]; exact hlt)⟩
      obtain ⟨b, o, kal, kc, rfl, hbl, hc, hki⟩ := cls_at HC.out hk
      have hkl := HOK.out.k k (List.mem_of_getElem? hk)
      have HLT := Lib.hid hlt
      have HS := Lib.hid (step_i (j := i) (by omega))
      have HT := Lib.hid (flat_take hk)
      obtain ⟨kn, hkn⟩ : ∃ kn, kn = k.length := ⟨_, rfl⟩
      rw [← hkn] at hc hkl HT
      clear hg hk hki hlt hkn
      by_cases hgr : 300 < s + kn
      · have g3 : decide (300 < ((s : Nat) : Int) + ((kn : Nat) : Int)) = true := decide_eq_true (by omega)
        have g4 : 300 < ((s : Nat) : Int) + ((kn : Nat) : Int) := by omega
        have HE : Hid (greatR C L = true) := Lib.hid (great_l (j := i + 1) (by rw [HT.out, ← HA.out]; exact hgr))
        clear hgr
        go_wp2_with fail
        go_ret
        exact ⟨by rw [HE.out]; rfl, HUE.out⟩
      · have g3 : decide (300 < ((s : Nat) : Int) + ((kn : Nat) : Int)) = false := decide_eq_false (by omega)
        have g4 : ¬ 300 < ((s : Nat) : Int) + ((kn : Nat) : Int) := by omega
        have HGR := Lib.hid hgr
        clear hgr
        go_wp2_with fail
        go_roundg (gk - 1)
        case measure => have := HG.out; have := HLT.out; omega
        case rel => exact ⟨i + 1, s + kn, by go_num, by first | rfl | (rw [HS.out.1]) | go_num, by have := HG.out; have := HLT.out; omega, by have := HGR.out; omega, Lib.hid (by rw [HT.out, HA.out]), rfl⟩
    · have g1 : decide (((i : Nat) : Int) < ((n : Nat) : Int)) = false := decide_eq_false (by omega)
      have g2 : ¬ ((i : Nat) : Int) < ((n : Nat) : Int) := by omega
      have HE : Hid (s = C.flatten.length) := Lib.hid (by have := HA.out; rw [List.take_of_length_le (by have := HN.out; omega)] at this; exact this)
      clear hg hlt HA
      go_wp2_with fail
      obtain ⟨gA, hgA⟩ : ∃ gA, gA = gk := ⟨_, rfl⟩
      subst hgA
      go_loopg [5, 7] ln (fun gk v5 v7 wr => ∃ j t : Nat, v5 = .int .i64 ((t : Nat) : Int) ∧ v7 = .int .i64 ((j : Nat) : Int) ∧ j + gk = ln ∧ t ≤ 300 ∧ Hid (t = C.flatten.length + (L.take j).flatten.length) ∧ U = wr)
      case atStart => exact ⟨0, s, rfl, rfl, by omega, hs, Lib.hid (by rw [HE.out]; rfl), rfl⟩
      case round =>
        obtain ⟨j, t, rfl, rfl, hg2, ht, HB, rfl⟩ := hrel
        have HG2 := Lib.hid hg2
        have j0 : (0 : Int) ≤ ((j : Nat) : Int) := by omega
        have t0 : (0 : Int) ≤ ((t : Nat) : Int) := by omega
        by_cases hlt2 : j < ln
        · have g3 : decide (((j : Nat) : Int) < ((ln : Nat) : Int)) = true := decide_eq_true (by omega)
          have g4 : ((j : Nat) : Int) < ((ln : Nat) : Int) := by omega
          obtain ⟨k, hk⟩ : ∃ k, L[j]? = some k := ⟨_, List.getElem?_eq_getElem (by rw [← HLN.out]; exact hlt2)⟩
          obtain ⟨b, o, kal, kc, rfl, hbl, hc, hki⟩ := cls_at HLS.out hk
          have hkl := HOKL.out.k k (List.mem_of_getElem? hk)
          have HLT2 := Lib.hid hlt2
          have HS2 := Lib.hid (step_i (j := j) (by omega))
          have HT := Lib.hid (flat_take hk)
          obtain ⟨kn, hkn⟩ : ∃ kn, kn = k.length := ⟨_, rfl⟩
          rw [← hkn] at hc hkl HT
          clear hg2 hk hki hlt2 hkn
          by_cases hgr : 300 < t + kn
          · have g5 : decide (300 < ((t : Nat) : Int) + ((kn : Nat) : Int)) = true := decide_eq_true (by omega)
            have g6 : 300 < ((t : Nat) : Int) + ((kn : Nat) : Int) := by omega
            have HF : Hid (greatR C L = true) := Lib.hid (great_r (j := j + 1) (by rw [HT.out]; have := HB.out; omega))
            clear hgr
            go_wp2_with fail
            go_ret
            exact ⟨by rw [HF.out]; rfl, HUE.out⟩
          · have g5 : decide (300 < ((t : Nat) : Int) + ((kn : Nat) : Int)) = false := decide_eq_false (by omega)
            have g6 : ¬ 300 < ((t : Nat) : Int) + ((kn : Nat) : Int) := by omega
            have HGR := Lib.hid hgr
            clear hgr
            go_wp2_with fail
            go_roundg (gk - 1)
            case measure => have := HG2.out; have := HLT2.out; omega
            case rel => exact ⟨j + 1, t + kn, by go_num, by first | rfl | (rw [HS2.out.1]) | go_num, by have := HG2.out; have := HLT2.out; omega, by have := HGR.out; omega, Lib.hid (by rw [HT.out]; have := HB.out; omega), rfl⟩
        · have g3 : decide (((j : Nat) : Int) < ((ln : Nat) : Int)) = false := decide_eq_false (by omega)
          have g4 : ¬ ((j : Nat) : Int) < ((ln : Nat) : Int) := by omega
          have HF : Hid (greatR C L = decide (100 < n + ln)) := Lib.hid (by
            rw [HN.out, HLN.out]
            refine great_end (by have := HE.out; omega) ?_
            have := HB.out
            rw [List.take_of_length_le (by have := HLN.out; omega)] at this
            omega)
          have hnb : ((n : Nat) : Int) + ((ln : Nat) : Int) < 9223372036854775808 := by omega
          have n0 : (0 : Int) ≤ ((n : Nat) : Int) := by omega
          have l0 : (0 : Int) ≤ ((ln : Nat) : Int) := by omega
          clear hg2 hlt2
          by_cases hbig : 100 < n + ln
          · have g5 : decide (100 < ((n : Nat) : Int) + ((ln : Nat) : Int)) = true := decide_eq_true (by omega)
            have g6 : 100 < ((n : Nat) : Int) + ((ln : Nat) : Int) := by omega
            have HF2 : Hid (greatR C L = true) := Lib.hid (by rw [HF.out]; exact decide_eq_true hbig)
            clear hbig HF
            go_wp2_with fail
            go_ret
            exact ⟨by rw [HF2.out]; rfl, HUE.out⟩
          · have g5 : decide (100 < ((n : Nat) : Int) + ((ln : Nat) : Int)) = false := decide_eq_false (by omega)
            have g6 : ¬ 100 < ((n : Nat) : Int) + ((ln : Nat) : Int) := by omega
            have HF2 : Hid (greatR C L = false) := Lib.hid (by rw [HF.out]; exact decide_eq_false hbig)
            clear hbig HF
            go_wp2_with fail
            go_ret
            exact ⟨by rw [HF2.out]; rfl, HUE.out⟩
end Rp
end Go.Proofs.Ytmgkgbhkaoflhaa
