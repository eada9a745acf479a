/-
The document's Is and has, as facts on one call.
The document's May, as a fact on one call.
-/
import Derived.Test.YtmgkgbhkaoflhaaCfData
namespace Go.Proofs.Ytmgkgbhkaoflhaa
open Go.RowKit
namespace Cf
set_option maxHeartbeats 1000000
set_option maxRecDepth 100000

/-- Of variables that may be. -/
theorem ris_any {l v : Int} {W : World} (hv : 0 ≤ v) (hv2 : v ≤ 1000000) :
    Calls Try.prog 15 #[.int .i64 l, .int .i64 v] W fun e w => e = .returned (.bool (isL l v)) ∧ W = w := by
  obtain ⟨n1, n2⟩ := neg_i (x := v) (by omega) (by omega)
  by_cases h0 : l = 0
  · subst h0
    go_enter Try.func15, Try.ntmps15
    go_wp2_with fail
    go_ret
    exact ⟨rfl, rfl⟩
  · have d0 : (l == 0) = false := by simpa using h0
    have d1 : (l != 0) = true := by simpa using h0
    by_cases h1 : -v ≤ l
    · by_cases h2 : l ≤ v
      · have e : isL l v = true := by unfold isL; simp [h0, h1, h2]
        have HE := Lib.hid e
        clear e
        go_enter Try.func15, Try.ntmps15
        go_wp2_with fail
        go_ret
        exact ⟨ret_bool HE.out.symm, rfl⟩
      · have e : isL l v = false := by unfold isL; simp [h2]
        have HE := Lib.hid e
        have h2 : v < l := by omega
        clear e
        go_enter Try.func15, Try.ntmps15
        go_wp2_with fail
        go_ret
        exact ⟨ret_bool HE.out.symm, rfl⟩
    · have e : isL l v = false := by unfold isL; simp [h1]
      have HE := Lib.hid e
      have h1 : l < -v := by omega
      clear e
      go_enter Try.func15, Try.ntmps15
      go_wp2_with fail
      go_ret
      exact ⟨ret_bool HE.out.symm, rfl⟩

theorem elem_at {T : List Int} {x : Int} {j : Nat} (h : T[j]? = some x) : T.elem x = true := by
  have := List.mem_of_getElem? h
  simpa using this
theorem elem_none {T : List Int} {x : Int} (h : ∀ j : Nat, j < T.length → T[j]? ≠ some x) : T.elem x = false := by
  cases hc : T.elem x with
  | false => rfl
  | true =>
    have hm : x ∈ T := by simpa using hc
    obtain ⟨j, hj⟩ := List.getElem?_of_mem hm
    exact absurd hj (h j (List.getElem?_eq_some_iff.1 hj).1)

theorem has_any {W : World} {al : Option Addr} {T : List Int} {c : Nat} {x : Int} (h : IntsAt W al T) (hl : T.length < 4611686018427387904) :
    Calls Try.prog 32 #[.slice al T.length c, .int .i64 x] W fun e w => e = .returned (.bool (T.elem x)) ∧ W = w := by
  obtain ⟨n, hn⟩ : ∃ n, n = T.length := ⟨_, rfl⟩
  have HC : Hid (∀ (j : Nat) (v : Int), T[j]? = some v → ∃ bl ol, al = some ⟨bl, ol, none⟩ ∧ W.cell? ⟨bl, ol + j, none⟩ = some (.int .i64 v)) := by
    show ∀ (j : Nat) (v : Int), _ → _
    intro j v hj
    rcases h with h | ⟨bl, ol, h1, _, h3⟩
    · subst h; simp at hj
    · exact ⟨bl, ol, h1, h3 j v hj⟩
  have HN := Lib.hid hn
  rw [← hn] at hl ⊢
  clear hn h
  have HL := Lib.hid hl
  go_enter Try.func32, Try.ntmps32
  go_wp2_with fail
  go_loopg [5] n (fun gk v5 wr => ∃ j : Nat, v5 = .int .i64 ((j : Nat) : Int) ∧ j + gk = n ∧ W = wr ∧ (∀ q, q < j → T[q]? ≠ some x))
  case atStart => exact ⟨0, rfl, by omega, rfl, fun q hq => by omega⟩
  case round =>
    obtain ⟨j, rfl, hj, rfl, hno⟩ := hrel
    have HJ := Lib.hid hj
    have HNO := Lib.hid hno
    by_cases hlt : j < n
    · obtain ⟨t, ht⟩ : ∃ t, T[j]? = some t := ⟨_, List.getElem?_eq_getElem (by rw [← HN.out]; exact hlt)⟩
      obtain ⟨bl, ol, rfl, hc⟩ := HC.out j t ht
      have q1 : ((j : Nat) : Int) < ((n : Nat) : Int) := by omega
      have q0 : (0 : Int) ≤ ((j : Nat) : Int) := by omega
      have HS := Lib.hid (step_i (j := j) (by omega))
      have HT := Lib.hid ht
      clear hno hj ht hl
      by_cases he : t = x
      · subst he
        go_wp2_with fail
        go_ret
        exact ⟨ret_bool (elem_at HT.out).symm, rfl⟩
      · have d0 : (t == x) = false := by simpa using he
        have HE := Lib.hid he
        clear he
        go_wp2_with fail
        go_roundg (gk - 1)
        case measure => have := HJ.out; omega
        case rel => exact ⟨j + 1, by first | rfl | (rw [HS.out.1]) | (congr 1; exact HS.out.1), by have := HJ.out; omega, rfl, fun q hq => by
          rcases Nat.lt_succ_iff_lt_or_eq.1 hq with c | c
          · exact HNO.out q c
          · rw [c, HT.out]; intro e; injection e with e; exact HE.out e⟩
    · have q1 : decide (((j : Nat) : Int) < ((n : Nat) : Int)) = false := decide_eq_false (by omega)
      obtain rfl : j = n := by omega
      clear hno hj
      go_wp2_with fail
      go_ret
      exact ⟨ret_bool (elem_none (fun q hq => HNO.out q (by rw [HN.out]; exact hq))).symm, rfl⟩
end Cf
end Go.Proofs.Ytmgkgbhkaoflhaa

namespace Go.Proofs.Ytmgkgbhkaoflhaa
open Go.RowKit
namespace Cf
set_option maxHeartbeats 1000000
set_option maxRecDepth 100000

theorem mayC_out {v : Int} {C : Cl} (h : mayV v = false) : mayC v C = false := by unfold mayC; rw [h]; rfl
theorem mayC_at {v l : Int} {C : Cl} {k : List Int} {i j : Nat} (hk : C[i]? = some k) (hl : k[j]? = some l) (h : isL l v = false) : mayC v C = false := by
  cases hm : mayC v C with
  | false => rfl
  | true =>
    have := (mayC_parts hm).2 k (List.mem_of_getElem? hk) l (List.mem_of_getElem? hl)
    rw [h] at this; cases this
theorem mayC_all {v : Int} {C : Cl} (hv : mayV v = true) (h : ∀ (i : Nat), i < C.length → ∀ (k : List Int), C[i]? = some k → ∀ (j : Nat) (l : Int), k[j]? = some l → isL l v = true) : mayC v C = true := by
  unfold mayC
  rw [hv, Bool.true_and, List.all_eq_true]
  intro k hk
  rw [List.all_eq_true]
  intro l hl
  obtain ⟨i, hi⟩ := List.getElem?_of_mem hk
  obtain ⟨j, hj⟩ := List.getElem?_of_mem hl
  exact h i (List.getElem?_eq_some_iff.1 hi).1 k hi j l hj
theorem cls_at {W : World} {al : Option Addr} {C : Cl} (h : ClsAt W al C) {i : Nat} {k : List Int} (hk : C[i]? = some k) : ∃ bl ol kal kc, al = some ⟨bl, ol, none⟩ ∧ bl < W.heap.size ∧ W.cell? ⟨bl, ol + i, none⟩ = some (.slice kal k.length kc) ∧ IntsAt W kal k := by
  rcases h with h | ⟨bl, ol, h1, h2, h3⟩
  · subst h; simp at hk
  · obtain ⟨kal, kc, a, b⟩ := h3 i k hk
    exact ⟨bl, ol, kal, kc, h1, h2, a, b⟩
theorem ints_at {W : World} {al : Option Addr} {T : List Int} (h : IntsAt W al T) {i : Nat} {x : Int} (hk : T[i]? = some x) : ∃ bl ol, al = some ⟨bl, ol, none⟩ ∧ bl < W.heap.size ∧ W.cell? ⟨bl, ol + i, none⟩ = some (.int .i64 x) := by
  rcases h with h | ⟨bl, ol, h1, h2, h3⟩
  · subst h; simp at hk
  · exact ⟨bl, ol, h1, h2, h3 i x hk⟩

theorem rmay_any {W : World} {al : Option Addr} {C : Cl} {v : Int} {c : Nat} (h : ClsAt W al C) (hok : OkC C) :
    Calls Try.prog 14 #[.agg #[.int .i64 v, .slice al C.length c]] W fun e w => e = .returned (.bool (mayC v C)) ∧ Below W.heap.size W w := by
  by_cases hv0 : v < 0
  · have HE := Lib.hid (mayC_out (C := C) (v := v) (by unfold mayV; rw [decide_eq_false (by omega : ¬ 0 ≤ v)]; rfl))
    go_enter Try.func14, Try.ntmps14
    go_wp2_with fail
    go_ret
    exact ⟨ret_bool HE.out.symm, (Below.refl _ _).alloc (Nat.le_refl _) _⟩
  by_cases hv1 : 1000000 < v
  · have HE := Lib.hid (mayC_out (C := C) (v := v) (by unfold mayV; rw [decide_eq_false (by omega : ¬ v ≤ 1000000), Bool.and_false]))
    have hv0 : 0 ≤ v := by omega
    go_enter Try.func14, Try.ntmps14
    go_wp2_with fail
    go_ret
    exact ⟨ret_bool HE.out.symm, (Below.refl _ _).alloc (Nat.le_refl _) _⟩
  have hv0 : 0 ≤ v := by omega
  have hv1 : v ≤ 1000000 := by omega
  have HV : Hid (mayV v = true) := by show _ = _; unfold mayV; rw [decide_eq_true hv0, decide_eq_true hv1]; rfl
  obtain ⟨n, hn⟩ : ∃ n, n = C.length := ⟨_, rfl⟩
  have HCL := Lib.hid h
  have HN := Lib.hid hn
  have HOK := Lib.hid hok
  have hl := hok.n
  rw [← hn] at hl ⊢
  clear hn h hok
  go_enter Try.func14, Try.ntmps14
  go_wp2_with fail
  go_loopg [3] n (fun gk v3 wr => ∃ j q : Nat, v3 = .int .i64 ((j : Nat) : Int) ∧ j + gk = n ∧ wr = (W.alloc (.cells #[.int .i64 v, .slice al n c] 24)).drewN q ∧ (∀ (i : Nat), i < j → ∀ (k : List Int), C[i]? = some k → ∀ (j : Nat) (l : Int), k[j]? = some l → isL l v = true))
  case atStart => exact ⟨0, 0, rfl, by omega, rfl, fun q hq => by omega⟩
  case round =>
    obtain ⟨j, q, rfl, hj, rfl, hno⟩ := hrel
    obtain ⟨gO, hgO⟩ : ∃ gO, gO = gk := ⟨_, rfl⟩
    subst hgO
    have HJ := Lib.hid hj
    have HNO := Lib.hid hno
    have q0 : (0 : Int) ≤ ((j : Nat) : Int) := by omega
    by_cases hlt : j < n
    · obtain ⟨k, hk⟩ : ∃ k, C[j]? = some k := ⟨_, List.getElem?_eq_getElem (by rw [← HN.out]; exact hlt)⟩
      obtain ⟨bl, ol, kal, kc, rfl, hbl, hcell, hI⟩ := cls_at HCL.out hk
      have q1 : ((j : Nat) : Int) < ((n : Nat) : Int) := by omega
      have HS := Lib.hid (step_i (j := j) (by omega))
      have HK := Lib.hid hk
      have HI := Lib.hid hI
      have hkl := HOK.out.k k (List.mem_of_getElem? hk)
      obtain ⟨m, hm⟩ : ∃ m, m = k.length := ⟨_, rfl⟩
      have HM := Lib.hid hm
      rw [← hm] at hcell hkl
      clear hno hj hk hI hm
      go_wp2_with fail
      go_loopg [4] m (fun gk v4 wr => ∃ i q : Nat, v4 = .int .i64 ((i : Nat) : Int) ∧ i + gk = m ∧ wr = (W.alloc (.cells #[.int .i64 v, .slice (some ⟨bl, ol, none⟩) n c] 24)).drewN q ∧ (∀ j l, j < i → k[j]? = some l → isL l v = true))
      case atStart => exact ⟨0, q, rfl, by omega, rfl, fun q _ hq => by omega⟩
      case round =>
        obtain ⟨i, q2, rfl, hi, rfl, hyes⟩ := hrel
        have HI2 := Lib.hid hi
        have HY := Lib.hid hyes
        have p0 : (0 : Int) ≤ ((i : Nat) : Int) := by omega
        by_cases hlt2 : i < m
        · obtain ⟨l, hll⟩ : ∃ l, k[i]? = some l := ⟨_, List.getElem?_eq_getElem (by rw [← HM.out]; exact hlt2)⟩
          obtain ⟨kb, ko, rfl, hkb, hlc⟩ := ints_at HI.out hll
          have p1 : ((i : Nat) : Int) < ((m : Nat) : Int) := by omega
          have HL := Lib.hid hll
          have HS2 := Lib.hid (step_i (j := i) (by omega))
          have HIS := Lib.hid (fun (w : World) => ris_any (l := l) (W := w) hv0 hv1)
          clear hyes hi hll
          cases hil : isL l v with
          | true =>
            rw [hil] at HIS
            have HIL := Lib.hid hil
            clear hil
            go_wp2_with fail
            go_quiet ((go_at_call 15; exact quiet_add_left (HIS.out _)))
            go_wp2_with fail
            go_roundg (gk - 1)
            case measure => have := HI2.out; omega
            case rel => exact ⟨i + 1, _, by first | rfl | (rw [HS2.out.1]) | (congr 1; exact HS2.out.1), by have := HI2.out; omega, by first | rfl | (rw [World.drewN_drewN]), fun j' l' hj' hl' => by
              rcases Nat.lt_succ_iff_lt_or_eq.1 hj' with c | c
              · exact HY.out j' l' c hl'
              · rw [c, HL.out] at hl'; injection hl' with e; rw [← e]; exact HIL.out⟩
          | false =>
            rw [hil] at HIS
            have HIL := Lib.hid hil
            clear hil
            go_wp2_with fail
            go_quiet ((go_at_call 15; exact quiet_add_left (HIS.out _)))
            go_wp2_with fail
            go_ret
            exact ⟨ret_bool (mayC_at HK.out HL.out HIL.out).symm, by repeat (first | exact Below.refl _ _ | (refine bel_alloc ?_ _) | (refine bel_drewN ?_ _))⟩
        · have p1 : decide (((i : Nat) : Int) < ((m : Nat) : Int)) = false := decide_eq_false (by omega)
          obtain rfl : i = m := by omega
          clear hyes hi
          go_wp2_with fail
          go_roundg (gO - 1)
          case measure => have := HJ.out; omega
          case rel => exact ⟨j + 1, _, by first | rfl | (rw [HS.out.1]) | (congr 1; exact HS.out.1), by have := HJ.out; omega, rfl, fun i' hi' k' hk' j' l' hl' => by
            rcases Nat.lt_succ_iff_lt_or_eq.1 hi' with c | c
            · exact HNO.out i' c k' hk' j' l' hl'
            · rw [c, HK.out] at hk'
              injection hk' with e
              subst e
              exact HY.out j' l' (by rw [HM.out]; exact (List.getElem?_eq_some_iff.1 hl').1) hl'⟩
    · have q1 : decide (((j : Nat) : Int) < ((n : Nat) : Int)) = false := decide_eq_false (by omega)
      obtain rfl : j = n := by omega
      clear hno hj
      go_wp2_with fail
      go_ret
      exact ⟨ret_bool (mayC_all HV.out (by rw [← HN.out]; exact HNO.out)).symm, by repeat (first | exact Below.refl _ _ | (refine bel_alloc ?_ _) | (refine bel_drewN ?_ _))⟩
end Cf
end Go.Proofs.Ytmgkgbhkaoflhaa
