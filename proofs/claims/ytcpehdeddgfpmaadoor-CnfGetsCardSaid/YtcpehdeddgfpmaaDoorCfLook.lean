/-
  The document's look and the comparison of two lists, as facts on one call.
-/
import Derived.Test.YtcpehdeddgfpmaaDoorCfMay
namespace Go.Proofs.YtcpehdeddgfpmaaDoor
open Go.RowKit
namespace Cf
set_option maxHeartbeats 1000000
set_option maxRecDepth 100000

theorem ret_il {z y : Int} {a b : Bool} (h1 : z = y) (h : a = b) : Ending.returned (.tuple #[.int .i64 z, .bool a]) = .returned (.tuple #[.int .i64 y, .bool b]) := by rw [h1, h]
theorem lookG_nil {came : List Int} {o : Int} {many : Bool} : lookG came o many [] = if many then (0, true) else (o, decide (o ≠ 0)) := rfl
theorem drop_at {T : List Int} {j : Nat} {x : Int} (h : T[j]? = some x) : T.drop j = x :: T.drop (j + 1) := by
  obtain ⟨hl, he⟩ := List.getElem?_eq_some_iff.1 h
  rw [List.drop_eq_getElem_cons hl, he]

/-- Two lists of numbers are compared. -/
theorem ints_any {W : World} {al bl : Option Addr} {S T : List Int} {c cc : Nat} (hS : IntsAt W al S) (hT : IntsAt W bl T) (hSl : S.length < 4611686018427387904) (_hTl : T.length < 4611686018427387904) :
    Calls Tryd.prog 13 #[.slice al S.length c, .slice bl T.length cc] W fun e w => e = .returned (.bool (decide (S = T))) ∧ ∃ q, w = W.drewN q := by
  by_cases hlen : S.length = T.length
  case neg =>
    have HE : Hid (decide (S = T) = false) := decide_eq_false (fun e => hlen (by rw [e]))
    obtain ⟨n, hn⟩ : ∃ n, n = S.length := ⟨_, rfl⟩
    obtain ⟨m, hm⟩ : ∃ m, m = T.length := ⟨_, rfl⟩
    rw [← hn, ← hm] at hlen ⊢
    have d0 : (((n : Nat) : Int) != ((m : Nat) : Int)) = true := by
      have : ¬ ((n : Nat) : Int) = ((m : Nat) : Int) := by omega
      simpa using this
    clear hn hm hlen
    go_enter Tryd.func13, Tryd.ntmps13
    go_wp2_with fail
    go_ret
    exact ⟨ret_bool HE.out.symm, 0, rfl⟩
  case pos =>
    obtain ⟨n, hn⟩ : ∃ n, n = S.length := ⟨_, rfl⟩
    rw [← hlen, ← hn]
    rw [← hn] at hSl
    have HN := Lib.hid hn
    have HNT := Lib.hid (hn.trans hlen)
    have H1 := Lib.hid hS
    have H2 := Lib.hid hT
    have d0 : (((n : Nat) : Int) != ((n : Nat) : Int)) = false := by simp
    clear hn hlen hS hT
    go_enter Tryd.func13, Tryd.ntmps13
    go_wp2_with fail
    go_loopg [5] n (fun gk v5 wr => ∃ j q : Nat, v5 = .int .i64 ((j : Nat) : Int) ∧ j + gk = n ∧ wr = W.drewN q ∧ (∀ i, i < j → S[i]? = T[i]?))
    case atStart => exact ⟨0, 0, rfl, by omega, rfl, fun q hq => by omega⟩
    case round =>
      obtain ⟨j, q, rfl, hj, rfl, hsame⟩ := hrel
      have HJ := Lib.hid hj
      have HSM := Lib.hid hsame
      have q0 : (0 : Int) ≤ ((j : Nat) : Int) := by omega
      by_cases hlt : j < n
      · obtain ⟨s, hs⟩ : ∃ s, S[j]? = some s := ⟨_, List.getElem?_eq_getElem (by rw [← HN.out]; exact hlt)⟩
        obtain ⟨t, ht⟩ : ∃ t, T[j]? = some t := ⟨_, List.getElem?_eq_getElem (by rw [← HNT.out]; exact hlt)⟩
        obtain ⟨b1, o1, rfl, _, hc1⟩ := ints_at H1.out hs
        obtain ⟨b2, o2, rfl, _, hc2⟩ := ints_at H2.out ht
        have q1 : ((j : Nat) : Int) < ((n : Nat) : Int) := by omega
        have HS := Lib.hid (step_i (j := j) (by omega))
        have HS1 := Lib.hid hs
        have HT1 := Lib.hid ht
        clear hsame hj hs ht
        by_cases he : s = t
        · subst he
          have d1 : (s != s) = false := by simp
          go_wp2_with fail
          go_quiet (fail)
          go_wp2_with fail
          go_roundg (gk - 1)
          case measure => have := HJ.out; omega
          case rel => exact ⟨j + 1, _, by first | rfl | (rw [HS.out.1]) | (congr 1; exact HS.out.1), by have := HJ.out; omega, by first | rfl | (rw [World.drewN_drewN]), fun i hi => by
            rcases Nat.lt_succ_iff_lt_or_eq.1 hi with c | c
            · exact HSM.out i c
            · rw [c, HS1.out, HT1.out]⟩
        · have d1 : (s != t) = true := by simpa using he
          have HNE : Hid (decide (S = T) = false) := decide_eq_false (fun e => by
            have h1 := HS1.out
            rw [e, HT1.out] at h1
            injection h1 with h1
            exact he h1.symm)
          clear he
          go_wp2_with fail
          go_quiet (fail)
          go_wp2_with fail
          go_ret
          exact ⟨ret_bool HNE.out.symm, _, by first | rfl | (rw [World.drewN_drewN])⟩
      · have q1 : decide (((j : Nat) : Int) < ((n : Nat) : Int)) = false := decide_eq_false (by omega)
        obtain rfl : j = n := by omega
        have HEQ : Hid (decide (S = T) = true) := decide_eq_true (by
          apply List.ext_getElem?
          intro i
          by_cases hi : i < j
          · exact HSM.out i hi
          · rw [List.getElem?_eq_none (by rw [← HN.out]; omega), List.getElem?_eq_none (by rw [← HNT.out]; omega)])
        clear hsame hj
        go_wp2_with fail
        go_ret
        exact ⟨ret_bool HEQ.out.symm, _, rfl⟩
end Cf
end Go.Proofs.YtcpehdeddgfpmaaDoor
