/-
  Whether clauses are more than the statements go through, and whether two are the same, as facts on one call.
-/
import Derived.Test.YtcpehdeddgfpmaaDoorCfGrow
namespace Go.Proofs.YtcpehdeddgfpmaaDoor
open Go.RowKit
namespace Cf
set_option maxHeartbeats 1000000
set_option maxRecDepth 100000

def greatC (C : Cl) : Bool := decide (400 < C.flatten.length) || decide (200 < C.length)
theorem greatC_no {C : Cl} (h : greatC C = false) : C.flatten.length ≤ 400 ∧ C.length ≤ 200 := by
  unfold greatC at h
  rw [Bool.or_eq_false_iff] at h
  have a := of_decide_eq_false h.1
  have b := of_decide_eq_false h.2
  omega
theorem flat_take {C : Cl} {j : Nat} {k : List Int} (h : C[j]? = some k) : (C.take (j + 1)).flatten.length = (C.take j).flatten.length + k.length := by
  rw [List.take_add_one, h]; simp
theorem flat_le (C : Cl) (j : Nat) : (C.take j).flatten.length ≤ C.flatten.length := by
  conv => rhs; rw [← List.take_append_drop j C]
  rw [List.flatten_append, List.length_append]; omega

theorem great_any {W : World} {al : Option Addr} {C : Cl} {v : Int} {c : Nat} (h : ClsAt W al C) (hok : OkC C) :
    Calls Tryd.prog 9 #[.agg #[.int .i64 v, .slice al C.length c]] W fun e w => e = .returned (.bool (greatC C)) ∧ W.alloc (.cells #[.int .i64 v, .slice al C.length c] 25) = w := by
  obtain ⟨n, hn⟩ : ∃ n, n = C.length := ⟨_, rfl⟩
  have HCL := Lib.hid h
  have HOK := Lib.hid hok
  have HN := Lib.hid hn
  have hl := hok.n
  rw [← hn] at hl ⊢
  clear hn h hok
  go_enter Tryd.func9, Tryd.ntmps9
  go_wp2_with fail
  go_loopg [3, 4] n (fun gk v3 v4 wr => ∃ j s : Nat, v3 = .int .i64 ((s : Nat) : Int) ∧ v4 = .int .i64 ((j : Nat) : Int) ∧ j + gk = n ∧ W.alloc (.cells #[.int .i64 v, .slice al n c] 25) = wr ∧ s = (C.take j).flatten.length ∧ s ≤ 400)
  case atStart => exact ⟨0, 0, rfl, rfl, by omega, rfl, by simp, by omega⟩
  case round =>
    obtain ⟨j, s, rfl, rfl, hj, rfl, hs, hs4⟩ := hrel
    have HJ := Lib.hid hj
    have HSS := Lib.hid hs
    have q0 : (0 : Int) ≤ ((j : Nat) : Int) := by omega
    by_cases hlt : j < n
    · obtain ⟨k, hk⟩ : ∃ k, C[j]? = some k := ⟨_, List.getElem?_eq_getElem (by rw [← HN.out]; exact hlt)⟩
      obtain ⟨bl, ol, kal, kc, rfl, hbl, hcell, hI⟩ := cls_at HCL.out hk
      have q1 : ((j : Nat) : Int) < ((n : Nat) : Int) := by omega
      have HS := Lib.hid (step_i (j := j) (by omega))
      have hkl := HOK.out.k k (List.mem_of_getElem? hk)
      obtain ⟨m, hm⟩ : ∃ m, m = k.length := ⟨_, rfl⟩
      have HF := Lib.hid ((flat_take hk).symm.trans rfl)
      have HM := Lib.hid hm
      rw [← hm] at hcell hkl
      have HSUM : Hid (s + m = (C.take (j + 1)).flatten.length) := by
        show _ = _
        rw [flat_take hk, ← hs, hm]
      clear hj hk hI hm hs
      by_cases hbig : 400 < s + m
      · have HE : Hid (greatC C = true) := by
          show _ = _
          have := flat_le C (j + 1)
          have := HSUM.out
          unfold greatC
          rw [decide_eq_true (by omega : 400 < C.flatten.length)]; rfl
        have p1 : (400 : Int) < ((s : Nat) : Int) + ((m : Nat) : Int) := by omega
        go_wp2_with fail
        go_ret
        exact ⟨ret_bool HE.out.symm, rfl⟩
      · have p1 : decide ((400 : Int) < ((s : Nat) : Int) + ((m : Nat) : Int)) = false := decide_eq_false (by omega)
        have HB := Lib.hid (show s + m ≤ 400 by omega)
        clear hbig
        go_wp2_with fail
        go_roundg (gk - 1)
        case measure => have := HJ.out; omega
        case rel => exact ⟨j + 1, s + m, by first | rfl | (simp), by first | rfl | (rw [HS.out.1]) | (congr 1; exact HS.out.1), by have := HJ.out; omega, rfl, HSUM.out, HB.out⟩
    · have q1 : decide (((j : Nat) : Int) < ((n : Nat) : Int)) = false := decide_eq_false (by omega)
      obtain rfl : j = n := by omega
      have HE : Hid (greatC C = decide (200 < j)) := by
        show _ = _
        have : C.take j = C := List.take_of_length_le (by rw [← HN.out]; exact Nat.le_refl _)
        rw [this] at hs
        unfold greatC
        rw [decide_eq_false (by omega : ¬ 400 < C.flatten.length), Bool.false_or, ← HN.out]
      clear hj hs
      by_cases hb : 200 < j
      · have p1 : (200 : Int) < ((j : Nat) : Int) := by omega
        go_wp2_with fail
        go_ret
        exact ⟨ret_bool (by rw [HE.out, decide_eq_true hb]), rfl⟩
      · have p1 : decide ((200 : Int) < ((j : Nat) : Int)) = false := decide_eq_false (by omega)
        have HB := Lib.hid hb
        clear hb
        go_wp2_with fail
        go_ret
        exact ⟨ret_bool (by rw [HE.out, decide_eq_false HB.out]), rfl⟩
end Cf
end Go.Proofs.YtcpehdeddgfpmaaDoor
