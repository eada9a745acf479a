/-
  The document's look and the comparison of two lists, as facts on one call.
-/
import Derived.Test.YtmgkgbhkaoflhaaA3
namespace Go.Proofs.Ytmgkgbhkaoflhaa
open Go.RowKit
namespace Cf
set_option maxHeartbeats 1000000
set_option maxRecDepth 100000

theorem ret_il {z y : Int} {a b : Bool} (h1 : z = y) (h : a = b) : Ending.returned (.tuple #[.int .i64 z, .bool a]) = .returned (.tuple #[.int .i64 y, .bool b]) := by rw [h1, h]
theorem lookG_nil {came : List Int} {o : Int} {many : Bool} : lookG came o many [] = if many then (0, true) else (o, decide (o ≠ 0)) := rfl
theorem drop_at {T : List Int} {j : Nat} {x : Int} (h : T[j]? = some x) : T.drop j = x :: T.drop (j + 1) := by
  obtain ⟨hl, he⟩ := List.getElem?_eq_some_iff.1 h
  rw [List.drop_eq_getElem_cons hl, he]

theorem look_any {W : World} {al cal : Option Addr} {k T : List Int} {c cc : Nat} (h : IntsAt W al k) (hl : k.length < 4611686018427387904) (h6 : ∀ l ∈ k, -9223372036854775808 < l ∧ l < 9223372036854775808) (hT : IntsAt W cal T) (hTl : T.length < 4611686018427387904) :
    Calls Try.prog 33 #[.slice al k.length c, .slice cal T.length cc] W fun e w => e = .returned (.tuple #[.int .i64 (lookC T k).1, .bool (lookC T k).2]) ∧ W = w := by
  obtain ⟨n, hn⟩ : ∃ n, n = k.length := ⟨_, rfl⟩
  obtain ⟨m, hm⟩ : ∃ m, m = T.length := ⟨_, rfl⟩
  have HI := Lib.hid h
  have H6 := Lib.hid h6
  have HN := Lib.hid hn
  have HHAS := Lib.hid (fun (x : Int) => has_any (W := W) (c := cc) (x := x) hT hTl)
  rw [← hm] at HHAS
  obtain ⟨LK, hLK⟩ : ∃ LK, LK = lookC T k := ⟨_, rfl⟩
  have HLK := Lib.hid hLK
  rw [← hn] at hl
  rw [← hn, ← hm, ← hLK]
  clear hn hm h h6 hT hTl hLK
  go_enter Try.func33, Try.ntmps33
  go_wp2_with fail
  go_loopg [6, 7, 8] n (fun gk v6 v7 v8 wr => ∃ (j : Nat) (o : Int) (mm : Bool), v6 = .int .i64 o ∧ v7 = .bool mm ∧ v8 = .int .i64 ((j : Nat) : Int) ∧ j + gk = n ∧ W = wr ∧ LK = lookG T o mm (k.drop j))
  case atStart => exact ⟨0, 0, false, rfl, rfl, rfl, by omega, rfl, by rw [HLK.out]; rfl⟩
  case round =>
    obtain ⟨j, o, mm, rfl, rfl, rfl, hj, rfl, hlk⟩ := hrel
    have HJ := Lib.hid hj
    have HL := Lib.hid hlk
    have q0 : (0 : Int) ≤ ((j : Nat) : Int) := by omega
    by_cases hlt : j < n
    · obtain ⟨t, ht⟩ : ∃ t, k[j]? = some t := ⟨_, List.getElem?_eq_getElem (by rw [← HN.out]; exact hlt)⟩
      obtain ⟨bl, ol, rfl, _, hc⟩ := ints_at HI.out ht
      have q1 : ((j : Nat) : Int) < ((n : Nat) : Int) := by omega
      have HS := Lib.hid (step_i (j := j) (by omega))
      have ht6 := H6.out t (List.mem_of_getElem? ht)
      have hng := neg_i ht6.1 ht6.2
      have HT := Lib.hid ht
      have HD := Lib.hid (drop_at ht)
      have HH1 := Lib.hid (HHAS.out t)
      have HH2 := Lib.hid (HHAS.out (-t))
      have hn1 := hng.1
      have hn2 := hng.2
      clear hlk hj ht hng HHAS ht6
      cases hc1 : T.elem t with
      | true =>
        rw [hc1] at HH1
        have HE : Hid (LK = (0, true)) := by
          show _ = _
          rw [HL.out, HD.out]
          unfold lookG
          rw [if_pos hc1]
        clear hc1
        go_wp2_with (go_at_call 32; refine HH1.out.mono ?_; rintro e w' ⟨rfl, rfl⟩)
        go_ret2
        exact ⟨ret_il (by rw [HE.out]) (by rw [HE.out]), rfl⟩
      | false =>
        rw [hc1] at HH1
        cases hc2 : T.elem (-t) with
        | true =>
          rw [hc2] at HH2
          have HE : Hid (LK = lookG T o mm (k.drop (j + 1))) := by
            show _ = _
            rw [HL.out, HD.out]
            conv => lhs; unfold lookG
            rw [if_neg (by rw [hc1]; simp), if_pos hc2]
          clear hc1 hc2
          go_wp2_with fail
          refine HH1.out.mono ?_; rintro e w' ⟨rfl, rfl⟩
          go_wp2_with fail
          refine HH2.out.mono ?_; rintro e w' ⟨rfl, rfl⟩
          go_wp2_with fail
          go_roundg (gk - 1)
          case measure => have := HJ.out; omega
          case rel => exact ⟨j + 1, o, mm, rfl, rfl, by first | rfl | (rw [HS.out.1]) | (congr 1; exact HS.out.1), by have := HJ.out; omega, rfl, HE.out⟩
        | false =>
          rw [hc2] at HH2
          have HE : Hid (LK = lookG T t (mm || (decide (o ≠ 0) && decide (o ≠ t))) (k.drop (j + 1))) := by
            show _ = _
            rw [HL.out, HD.out]
            conv => lhs; unfold lookG
            rw [if_neg (by rw [hc1]; simp), if_neg (by rw [hc2]; simp)]
          clear hc1 hc2
          by_cases ho : o = 0
          · subst ho
            have HF : Hid (LK = lookG T t mm (k.drop (j + 1))) := by
              show _ = _
              rw [HE.out]; simp
            go_wp2_with fail
            refine HH1.out.mono ?_; rintro e w' ⟨rfl, rfl⟩
            go_wp2_with fail
            refine HH2.out.mono ?_; rintro e w' ⟨rfl, rfl⟩
            go_wp2_with fail
            go_roundg (gk - 1)
            case measure => have := HJ.out; omega
            case rel => exact ⟨j + 1, t, mm, rfl, rfl, by first | rfl | (rw [HS.out.1]) | (congr 1; exact HS.out.1), by have := HJ.out; omega, rfl, HF.out⟩
          · have o0 : (o != 0) = true := by simpa using ho
            by_cases hot : o = t
            · subst hot
              have HF : Hid (LK = lookG T o mm (k.drop (j + 1))) := by
                show _ = _
                rw [HE.out]; simp
              have HO := Lib.hid ho
              clear ho
              go_wp2_with fail
              refine HH1.out.mono ?_; rintro e w' ⟨rfl, rfl⟩
              go_wp2_with fail
              refine HH2.out.mono ?_; rintro e w' ⟨rfl, rfl⟩
              go_wp2_with fail
              go_roundg (gk - 1)
              case measure => have := HJ.out; omega
              case rel => exact ⟨j + 1, o, mm, rfl, rfl, by first | rfl | (rw [HS.out.1]) | (congr 1; exact HS.out.1), by have := HJ.out; omega, rfl, HF.out⟩
            · have o1 : (o != t) = true := by simpa using hot
              have HF : Hid (LK = lookG T t true (k.drop (j + 1))) := by
                show _ = _
                rw [HE.out]
                rw [decide_eq_true (show o ≠ 0 from ho), decide_eq_true (show o ≠ t from hot)]; simp
              have HO := Lib.hid ho
              clear ho hot
              go_wp2_with fail
              refine HH1.out.mono ?_; rintro e w' ⟨rfl, rfl⟩
              go_wp2_with fail
              refine HH2.out.mono ?_; rintro e w' ⟨rfl, rfl⟩
              go_wp2_with fail
              go_roundg (gk - 1)
              case measure => have := HJ.out; omega
              case rel => exact ⟨j + 1, t, true, rfl, rfl, by first | rfl | (rw [HS.out.1]) | (congr 1; exact HS.out.1), by have := HJ.out; omega, rfl, HF.out⟩
    · have q1 : decide (((j : Nat) : Int) < ((n : Nat) : Int)) = false := decide_eq_false (by omega)
      obtain rfl : j = n := by omega
      have HE : Hid (LK = if mm then (0, true) else (o, decide (o ≠ 0))) := by
        show _ = _
        rw [HL.out, List.drop_eq_nil_of_le (by rw [← HN.out]; exact Nat.le_refl _)]; rfl
      clear hlk hj
      cases mm with
      | true =>
        go_wp2_with fail
        go_ret2
        exact ⟨ret_il (by rw [HE.out]; rfl) (by rw [HE.out]; rfl), rfl⟩
      | false =>
        go_wp2_with fail
        go_ret2
        exact ⟨ret_il (by rw [HE.out]; rfl) (by rw [HE.out]; by_cases h0 : o = 0 <;> simp [h0]), rfl⟩

end Cf
end Go.Proofs.Ytmgkgbhkaoflhaa
