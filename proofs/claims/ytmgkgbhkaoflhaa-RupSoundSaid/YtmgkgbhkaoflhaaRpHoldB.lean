/-
  The document's Holds; is it great?
-/
import Derived.Test.YtmgkgbhkaoflhaaRpHold
import Derived.Test.YtmgkgbhkaoflhaaCfGreat
namespace Go.Proofs.Ytmgkgbhkaoflhaa
open Go.RowKit
namespace Rp
open Cf
set_option maxHeartbeats 1600000
set_option maxRecDepth 100000

theorem any_take {m : List Bool} {k : List Int} {j : Nat} {x : Int} (h : k[j]? = some x) : (k.take (j + 1)).any (oneM m) = ((k.take j).any (oneM m) || oneM m x) := by
  rw [List.take_add_one, h, List.any_append]
  simp
theorem hold_take {m : List Bool} {C : Cl} {j : Nat} {k : List Int} (h : holdsC m (C.take j) = true) (hk : C[j]? = some k) (ha : k.any (oneM m) = true) : holdsC m (C.take (j + 1)) = true := by
  rw [List.take_add_one, hk]
  exact holds_snoc h ha
theorem hold_not {m : List Bool} {C : Cl} {j : Nat} {k : List Int} (hk : C[j]? = some k) (ha : k.any (oneM m) = false) : holdsC m C = false := by
  unfold holdsC
  rw [List.all_eq_false]
  exact ⟨k, List.mem_of_getElem? hk, by rw [ha]; simp⟩
theorem rholds_any {W : World} {al ml : Option Addr} {C : Cl} {m : List Bool} {v : Int} {n c len mc : Nat} (h : ClsAt W al C) (hn : n = C.length) (hok : OkC C) (hm : BoolsAt W ml m) (hlen : len = m.length) (hb : len ≤ 1000000) :
    Calls Try.prog 13 #[.agg #[.int .i64 v, .slice al n c], .slice ml len mc] W fun e w => e = .returned (.bool (holdsC m C)) ∧ W.alloc (.cells #[.int .i64 v, .slice al n c] 24) = w := by
  have HC := Lib.hid (h.keep (bel_alloc (Below.refl W.heap.size W) (.cells #[.int .i64 v, .slice al n c] 24)))
  have HM := Lib.hid (hm.keep (bel_alloc (Below.refl W.heap.size W) (.cells #[.int .i64 v, .slice al n c] 24)))
  have HN := Lib.hid hn
  have HOK := Lib.hid hok
  have hcn := hok.n
  rw [← hn] at hcn
  have HLEN := Lib.hid hlen
  clear h hm hn hok hlen
  go_enter Try.func13, Try.ntmps13
  go_wp2_with fail
  have hbx : (W.alloc (.cells #[.int .i64 v, .slice al n c] 24)).cell? ⟨W.heap.size, 1, none⟩ = some (.slice al n c) := new_cell _ _ _ _
  generalize hU : W.alloc (.cells #[.int .i64 v, .slice al n c] 24) = U at *
  have HUE := Lib.hid hU
  clear hU
  have HONE := Lib.hid (fun (l : Int) => rone_any (c := mc) (l := l) HM.out HLEN.out hb)
  go_loopg [5] n (fun gk v5 wr => ∃ i : Nat, v5 = .int .i64 ((i : Nat) : Int) ∧ i + gk = n ∧ Hid (holdsC m (C.take i) = true) ∧ U = wr)
  case atStart => exact ⟨0, rfl, by omega, Lib.hid rfl, rfl⟩
  case round =>
    obtain ⟨i, rfl, hg, HA, rfl⟩ := hrel
    have HG := Lib.hid hg
    have i0 : (0 : Int) ≤ ((i : Nat) : Int) := by omega
    by_cases hlt : i < n
    · have g1 : decide (((i : Nat) : Int) < ((n : Nat) : Int)) = true := decide_eq_true (by omega)
      have g2 : ((i : Nat) : Int) < ((n : Nat) : Int) := by omega
      obtain ⟨k, hk⟩ : ∃ k, C[i]? = some k := ⟨_, List.getElem?_eq_getElem (by rw [← HN.out]; exact hlt)⟩
      obtain ⟨b, o, kal, kc, rfl, hbl, hc, hki⟩ := cls_at HC.out hk
      have HK := Lib.hid hk
      have HKI := Lib.hid hki
      have hkl := HOK.out.k k (List.mem_of_getElem? hk)
      have HLT := Lib.hid hlt
      have HS := Lib.hid (step_i (j := i) (by omega))
      obtain ⟨kn, hkn⟩ : ∃ kn, kn = k.length := ⟨_, rfl⟩
      have HKN := Lib.hid hkn
      rw [← hkn] at hc hkl
      clear hg hk hki hlt hkn
      go_wp2_with fail
      obtain ⟨gA, hgA⟩ : ∃ gA, gA = gk := ⟨_, rfl⟩
      subst hgA
      go_loopg [6, 7] kn (fun gk v6 v7 wr => ∃ (j : Nat) (t : Bool), v6 = .bool t ∧ v7 = .int .i64 ((j : Nat) : Int) ∧ j + gk = kn ∧ Hid (t = (k.take j).any (oneM m)) ∧ U = wr)
      case atStart => exact ⟨0, false, rfl, rfl, by omega, Lib.hid rfl, rfl⟩
      case round =>
        obtain ⟨j, t, rfl, rfl, hg2, HB, rfl⟩ := hrel
        have HG2 := Lib.hid hg2
        have j0 : (0 : Int) ≤ ((j : Nat) : Int) := by omega
        by_cases hlt2 : j < kn
        · have g3 : decide (((j : Nat) : Int) < ((kn : Nat) : Int)) = true := decide_eq_true (by omega)
          have g4 : ((j : Nat) : Int) < ((kn : Nat) : Int) := by omega
          obtain ⟨x, hx⟩ : ∃ x, k[j]? = some x := ⟨_, List.getElem?_eq_getElem (by rw [← HKN.out]; exact hlt2)⟩
          obtain ⟨b2, o2, rfl, hbl2, hc2⟩ := ints_at HKI.out hx
          have HX := Lib.hid (any_take (m := m) hx)
          have HLT2 := Lib.hid hlt2
          have HS2 := Lib.hid (step_i (j := j) (by omega))
          have HO := Lib.hid (HONE.out x)
          clear hg2 hx hlt2
          cases ho : oneM m x with
          | true =>
            rw [ho] at HO HX
            clear ho
            go_wp2_with fail
            refine HO.out.mono ?_
            rintro e w ⟨rfl, rfl⟩
            go_wp2_with fail
            go_roundg (gk - 1)
            case measure => have := HG2.out; have := HLT2.out; omega
            case rel => exact ⟨j + 1, true, rfl, by first | rfl | (rw [HS2.out.1]) | go_num, by have := HG2.out; have := HLT2.out; omega, Lib.hid (by rw [HX.out]; simp), rfl⟩
          | false =>
            rw [ho] at HO HX
            clear ho
            go_wp2_with fail
            refine HO.out.mono ?_
            rintro e w ⟨rfl, rfl⟩
            go_wp2_with fail
            go_roundg (gk - 1)
            case measure => have := HG2.out; have := HLT2.out; omega
            case rel => exact ⟨j + 1, t, rfl, by first | rfl | (rw [HS2.out.1]) | go_num, by have := HG2.out; have := HLT2.out; omega, Lib.hid (by rw [HX.out, HB.out]; simp), rfl⟩
        · have g3 : decide (((j : Nat) : Int) < ((kn : Nat) : Int)) = false := decide_eq_false (by omega)
          have g4 : ¬ ((j : Nat) : Int) < ((kn : Nat) : Int) := by omega
          have HB2 : Hid (t = k.any (oneM m)) := Lib.hid (by have := HB.out; rw [List.take_of_length_le (by have := HKN.out; omega)] at this; exact this)
          clear hg2 hlt2
          cases t
          · have HF : Hid (holdsC m C = false) := Lib.hid (hold_not HK.out HB2.out.symm)
            go_wp2_with fail
            go_ret
            exact ⟨by rw [HF.out]; rfl, HUE.out⟩
          · go_wp2_with fail
            go_roundg (gA - 1)
            case measure => have := HG.out; have := HLT.out; omega
            case rel => exact ⟨i + 1, by first | rfl | (rw [HS.out.1]) | go_num, by have := HG.out; have := HLT.out; omega, Lib.hid (hold_take HA.out HK.out HB2.out.symm), rfl⟩
    · have g1 : decide (((i : Nat) : Int) < ((n : Nat) : Int)) = false := decide_eq_false (by omega)
      have g2 : ¬ ((i : Nat) : Int) < ((n : Nat) : Int) := by omega
      have HE : Hid (holdsC m C = true) := Lib.hid (by have := HA.out; rw [List.take_of_length_le (by have := HN.out; omega)] at this; exact this)
      clear hg hlt
      go_wp2_with fail
      go_ret
      exact ⟨by rw [HE.out]; rfl, HUE.out⟩
end Rp
end Go.Proofs.Ytmgkgbhkaoflhaa
