/-
  The document's heap: Pop, walked.
-/
import Derived.Test.YtdajnmlpghgeeaaHpPop
import Derived.Deep.RegionHeld3
namespace Go.Proofs.Ytdajnmlpghgeeaa
open Go.RowKit
namespace Hp
set_option maxHeartbeats 1600000
set_option maxRecDepth 100000

theorem rpop_any {W : World} {p sb ib : Nat} {S : List Nat} {I : List Bool} (h : RHp W p sb ib S I) : Calls Try.prog 27 #[.pointer (some ⟨p, 0, none⟩)] W (PopE W p sb ib S I) := by
  have c0 := h.c0
  have c1 := h.c1
  have hp := h.pos
  have HH := Lib.hid h
  clear h
  go_enter Try.func27, Try.ntmps27
  go_wp2_with fail
  go_loopg [4, 5] (S.length - 1) (fun gk v4 v5 wr => ∃ k : Nat, v4 = .int .i64 ((bestP S I k : Nat) : Int) ∧ v5 = .int .i64 ((k : Nat) : Int) ∧ k + gk = S.length ∧ 1 ≤ k ∧ Hid (∃ q, wr = W.drewN q))
  case atStart => exact ⟨1, by simp [bestP], rfl, by omega, by omega, Lib.hid ⟨0, rfl⟩⟩
  case round =>
    obtain ⟨k, rfl, rfl, hk, h1, HQ⟩ := hrel
    have HR : Hid (RHp wr p sb ib S I) := Lib.hid (by obtain ⟨q, hq⟩ := HQ.out; rw [hq]; exact HH.out.drewN q)
    have c0 := HR.out.c0
    have c1 := HR.out.c1
    have HQ2 : Hid (∀ j, ∃ q, wr.drewN j = W.drewN q) := Lib.hid (fun j => by obtain ⟨q, hq⟩ := HQ.out; exact ⟨q + j, by rw [hq, World.drewN_drewN]⟩)
    have HK := Lib.hid hk
    have q0 : (0 : Int) ≤ ((k : Nat) : Int) := by omega
    by_cases hlt : k < S.length
    · obtain ⟨b, hb⟩ : ∃ b, I[k]? = some b := ⟨_, List.getElem?_eq_getElem (by rw [HH.out.len]; exact hlt)⟩
      obtain ⟨x, hx⟩ : ∃ x, S[k]? = some x := ⟨_, List.getElem?_eq_getElem hlt⟩
      have hI := HR.out.i k b hb
      have hX := HR.out.s k x hx
      have q1 : ((k : Nat) : Int) < ((S.length : Nat) : Int) := by omega
      have hs := step_i (j := k) (by omega)
      obtain ⟨m, hm⟩ : ∃ m, m = bestP S I k := ⟨_, rfl⟩
      have hml : m < k := by rw [hm]; exact best_lt S I k h1
      obtain ⟨y, hy⟩ : ∃ y, S[m]? = some y := ⟨_, List.getElem?_eq_getElem (by omega)⟩
      have hY := HR.out.s m y hy
      have HN : Hid (bestP S I (k + 1) = if b && (m == 0 || aboveF x y) then k else m) := Lib.hid (by
        rw [bestP, if_neg (by omega), ← hm]
        simp only [inP, scP, hb, hx, hy, Option.getD_some])
      rw [← hm]
      clear hk hb hx hy
      cases b with
      | false =>
        go_wp2_with fail
        go_quiet (fail)
        all_goals go_wp2_with fail
        all_goals go_roundg (gk - 1)
        all_goals first | (have := HK.out; omega; done) | exact ⟨k + 1, by rw [HN.out]; rfl, rfl, by have := HK.out; omega, by omega, Lib.hid (HQ2.out _)⟩
      | true =>
        by_cases h0 : m = 0
        · subst h0
          clear hm
          go_wp2_with fail
          go_quiet (fail)
          all_goals go_wp2_with fail
          all_goals go_roundg (gk - 1)
          all_goals first | (have := HK.out; omega; done) | exact ⟨k + 1, by rw [HN.out]; rfl, rfl, by have := HK.out; omega, by omega, Lib.hid (HQ2.out _)⟩
        · have hz : (m == 0) = false := by simpa using h0
          have hz2 : (((m : Nat) : Int) == 0) = false := by simpa using h0
          have hz3 : ¬ ((m : Nat) : Int) = 0 := by omega
          have p0 : (0 : Int) ≤ ((m : Nat) : Int) := by omega
          have p1 : ((m : Nat) : Int) < ((S.length : Nat) : Int) := by omega
          have HA := Lib.hid (fun w => rabove_any x y w)
          cases ha : aboveF x y with
          | true =>
            rw [ha] at HA
            have HT : Hid (bestP S I (k + 1) = k) := Lib.hid (by rw [HN.out, ha]; simp)
            clear HN ha hm
            go_wp2_with fail
            go_quiet ((go_at_call 23; exact Calls.quiet_of_same (HA.out _)))
            all_goals go_wp2_with fail
            all_goals go_roundg (gk - 1)
            all_goals first | (have := HK.out; omega; done) | exact ⟨k + 1, by rw [HT.out], rfl, by have := HK.out; omega, by omega, Lib.hid (HQ2.out _)⟩
          | false =>
            rw [ha] at HA
            have HT : Hid (bestP S I (k + 1) = m) := Lib.hid (by rw [HN.out, ha, hz]; rfl)
            clear HN ha hm
            go_wp2_with fail
            go_quiet ((go_at_call 23; exact Calls.quiet_of_same (HA.out _)))
            all_goals go_wp2_with fail
            all_goals go_roundg (gk - 1)
            all_goals first | (have := HK.out; omega; done) | exact ⟨k + 1, by rw [HT.out], rfl, by have := HK.out; omega, by omega, Lib.hid (HQ2.out _)⟩
    · have q1 : decide (((k : Nat) : Int) < ((S.length : Nat) : Int)) = false := decide_eq_false (by omega)
      obtain rfl : k = S.length := by omega
      clear hk
      obtain ⟨m, hm⟩ : ∃ m, m = bestP S I S.length := ⟨_, rfl⟩
      have hml : m < S.length := by rw [hm]; exact best_lt S I S.length h1
      rw [← hm]
      by_cases h0 : m = 0
      · subst h0
        have HM := Lib.hid hm
        clear hm
        go_wp2_with fail
        go_ret2
        unfold PopE
        rw [← HM.out, if_pos rfl]
        obtain ⟨q, rfl⟩ := HQ.out
        exact ⟨rfl, HR.out, (Only.refl _ _).drewN q⟩
      · obtain ⟨b, hb⟩ : ∃ b, I[m]? = some b := ⟨_, List.getElem?_eq_getElem (by rw [HH.out.len]; exact hml)⟩
        have hI := HR.out.i m b hb
        have hf := HR.out.fi m
        have hz2 : (((m : Nat) : Int) == 0) = false := by simpa using h0
        have hz3 : ¬ ((m : Nat) : Int) = 0 := by omega
        have p0 : (0 : Int) ≤ ((m : Nat) : Int) := by omega
        have p1 : ((m : Nat) : Int) < ((S.length : Nat) : Int) := by omega
        have HM := Lib.hid hm
        clear hm hb
        go_wp2_with fail
        go_ret2
        unfold PopE
        rw [← HM.out, if_neg h0]
        obtain ⟨q, rfl⟩ := HQ.out
        exact ⟨rfl, HR.out.setI hml false, ((Only.refl _ _).drewN q).set (by simp) _⟩
end Hp
end Go.Proofs.Ytdajnmlpghgeeaa
