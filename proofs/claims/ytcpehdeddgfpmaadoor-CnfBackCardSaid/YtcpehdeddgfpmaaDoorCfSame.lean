/-
  The document's Same, as a fact on one call.
-/
import Derived.Test.YtcpehdeddgfpmaaDoorCfGrow
import Derived.Deep.Cut
namespace Go.Proofs.YtcpehdeddgfpmaaDoor
open Go.RowKit
namespace Cf
set_option maxHeartbeats 3200000
set_option maxRecDepth 100000

theorem cls_ext {C D : Cl} (hl : C.length = D.length) (h : ∀ i, i < C.length → C[i]? = D[i]?) : C = D := by
  apply List.ext_getElem?
  intro i
  by_cases hi : i < C.length
  · exact h i hi
  · rw [List.getElem?_eq_none (by omega), List.getElem?_eq_none (by omega)]
theorem ints_ext {C D : List Int} (hl : C.length = D.length) (h : ∀ i, i < C.length → C[i]? = D[i]?) : C = D := by
  apply List.ext_getElem?
  intro i
  by_cases hi : i < C.length
  · exact h i hi
  · rw [List.getElem?_eq_none (by omega), List.getElem?_eq_none (by omega)]

theorem two_boxes (W : World) (v u : Int) (x y : Value) :
    ((W.alloc (.cells #[.int .i64 v, x] 25)).alloc (.cells #[.int .i64 u, y] 25)).cell? ⟨W.heap.size, 0, none⟩ = some (.int .i64 v) ∧
    ((W.alloc (.cells #[.int .i64 v, x] 25)).alloc (.cells #[.int .i64 u, y] 25)).cell? ⟨W.heap.size, 1, none⟩ = some x ∧
    ((W.alloc (.cells #[.int .i64 v, x] 25)).alloc (.cells #[.int .i64 u, y] 25)).cell? ⟨W.heap.size + 1, 0, none⟩ = some (.int .i64 u) ∧
    ((W.alloc (.cells #[.int .i64 v, x] 25)).alloc (.cells #[.int .i64 u, y] 25)).cell? ⟨W.heap.size + 1, 1, none⟩ = some y := by
  have e : (W.alloc (.cells #[.int .i64 v, x] 25)).heap.size = W.heap.size + 1 := by simp
  have n0 := new_cell (W.alloc (.cells #[.int .i64 v, x] 25)) #[.int .i64 u, y] 25 0
  have n1 := new_cell (W.alloc (.cells #[.int .i64 v, x] 25)) #[.int .i64 u, y] 25 1
  rw [e] at n0 n1
  have b := bel_alloc (Below.refl _ (W.alloc (.cells #[.int .i64 v, x] 25))) (.cells #[.int .i64 u, y] 25)
  exact ⟨(b.cell (p := ⟨W.heap.size, 0, none⟩) (by simp)).trans (new_cell _ _ _ _), (b.cell (p := ⟨W.heap.size, 1, none⟩) (by simp)).trans (new_cell _ _ _ _), n0, n1⟩

theorem rsame_any {W : World} {al bl : Option Addr} {C D : Cl} {v u : Int} {c d : Nat} (hC : ClsAt W al C) (hokC : OkC C) (hD : ClsAt W bl D) (hokD : OkC D) :
    Calls Tryd.prog 8 #[.agg #[.int .i64 v, .slice al C.length c], .agg #[.int .i64 u, .slice bl D.length d]] W fun e w => e = .returned (.bool (decide (v = u ∧ C = D))) ∧ Below W.heap.size W w := by
  obtain ⟨n, hn⟩ : ∃ n, n = C.length := ⟨_, rfl⟩
  obtain ⟨m, hm⟩ : ∃ m, m = D.length := ⟨_, rfl⟩
  rw [← hn, ← hm]
  have hnl : n < 4611686018427387904 := by rw [hn]; exact hokC.n
  obtain ⟨v0, v1, u0, u1⟩ := two_boxes W v u (.slice al n c) (.slice bl m d)
  have HBV := Lib.hid (bel_alloc (bel_alloc (Below.refl W.heap.size W) (.cells #[.int .i64 v, .slice al n c] 25)) (.cells #[.int .i64 u, .slice bl m d] 25))
  by_cases hv : v = u
  case neg =>
    have HE : Hid (decide (v = u ∧ C = D) = false) := decide_eq_false (fun e => hv e.1)
    have d0 : (v != u) = true := by simpa using hv
    clear hn hm hC hD hokC hokD hv
    go_enter Tryd.func8, Tryd.ntmps8
    go_upto_region 1 with fail
    change Code.wp _ _ _ _ ((W.alloc (.cells #[.int .i64 v, .slice al n c] 25)).alloc (.cells #[.int .i64 u, .slice bl m d] 25))
    generalize hV : (W.alloc (.cells #[.int .i64 v, .slice al n c] 25)).alloc (.cells #[.int .i64 u, .slice bl m d] 25) = V at v0 v1 u0 u1 HBV ⊢
    clear hV
    go_wp2_with fail
    go_ret
    exact ⟨ret_bool (by first | exact HE.out.symm | simpa using HE.out.symm), by repeat (first | exact HBV.out | (refine bel_drewN ?_ _) | (refine bel_alloc ?_ _))⟩
  subst hv
  have d0 : (v != v) = false := by simp
  by_cases hl : n = m
  case neg =>
    have HE : Hid (decide (v = v ∧ C = D) = false) := decide_eq_false (fun e => hl (by rw [hn, hm, e.2]))
    have d1 : (((n : Nat) : Int) != ((m : Nat) : Int)) = true := by
      have : ¬ ((n : Nat) : Int) = ((m : Nat) : Int) := by omega
      simpa using this
    clear hn hm hC hD hokC hokD hl
    go_enter Tryd.func8, Tryd.ntmps8
    go_upto_region 1 with fail
    change Code.wp _ _ _ _ ((W.alloc (.cells #[.int .i64 v, .slice al n c] 25)).alloc (.cells #[.int .i64 v, .slice bl m d] 25))
    generalize hV : (W.alloc (.cells #[.int .i64 v, .slice al n c] 25)).alloc (.cells #[.int .i64 v, .slice bl m d] 25) = V at v0 v1 u0 u1 HBV ⊢
    clear hV
    go_wp2_with fail
    go_ret
    exact ⟨ret_bool (by first | exact HE.out.symm | simpa using HE.out.symm), by repeat (first | exact HBV.out | (refine bel_drewN ?_ _) | (refine bel_alloc ?_ _))⟩
  subst hl
  have d1 : (((n : Nat) : Int) != ((n : Nat) : Int)) = false := by simp
  have HN := Lib.hid hn
  have HM := Lib.hid hm
  have HC := Lib.hid hC
  have HD := Lib.hid hD
  have HOC := Lib.hid hokC
  have HOD := Lib.hid hokD
  clear hn hm hC hD hokC hokD
  go_enter Tryd.func8, Tryd.ntmps8
  go_upto_region 1 with fail
  change Code.wp _ _ _ _ ((W.alloc (.cells #[.int .i64 v, .slice al n c] 25)).alloc (.cells #[.int .i64 v, .slice bl n d] 25))
  generalize hV : (W.alloc (.cells #[.int .i64 v, .slice al n c] 25)).alloc (.cells #[.int .i64 v, .slice bl n d] 25) = V at v0 v1 u0 u1 HBV ⊢
  clear hV
  go_wp2_with fail
  go_loopg [5] n (fun gk v5 wr => ∃ i q : Nat, v5 = .int .i64 ((i : Nat) : Int) ∧ i + gk = n ∧ wr = V.drewN q ∧ (∀ j, j < i → C[j]? = D[j]?))
  case atStart => exact ⟨0, 0, rfl, by omega, rfl, fun q hq => by omega⟩
  case round =>
    obtain ⟨i, q, rfl, hi, rfl, hsm⟩ := hrel
    obtain ⟨gO, hgO⟩ : ∃ gO, gO = gk := ⟨_, rfl⟩
    subst hgO
    have HI := Lib.hid hi
    have HSM := Lib.hid hsm
    have q0 : (0 : Int) ≤ ((i : Nat) : Int) := by omega
    by_cases hlt : i < n
    · obtain ⟨k, hk⟩ : ∃ k, C[i]? = some k := ⟨_, List.getElem?_eq_getElem (by rw [← HN.out]; exact hlt)⟩
      obtain ⟨l, hl⟩ : ∃ l, D[i]? = some l := ⟨_, List.getElem?_eq_getElem (by rw [← HM.out]; exact hlt)⟩
      obtain ⟨b1, o1, k1, kc1, rfl, hb1, hc1, hI1⟩ := cls_at (HC.out.keep HBV.out) hk
      obtain ⟨b2, o2, k2, kc2, rfl, hb2, hc2, hI2⟩ := cls_at (HD.out.keep HBV.out) hl
      have q1 : ((i : Nat) : Int) < ((n : Nat) : Int) := by omega
      have HS := Lib.hid (step_i (j := i) (by omega))
      have HK := Lib.hid hk
      have HL := Lib.hid hl
      have hkl := HOC.out.k k (List.mem_of_getElem? hk)
      obtain ⟨mk, hmk⟩ : ∃ m, m = k.length := ⟨_, rfl⟩
      obtain ⟨ml, hml⟩ : ∃ m, m = l.length := ⟨_, rfl⟩
      rw [← hmk] at hc1 hkl
      rw [← hml] at hc2
      have HI1 := Lib.hid hI1
      have HI2 := Lib.hid hI2
      by_cases hlen : mk = ml
      case neg =>
        have HE : Hid (decide (v = v ∧ C = D) = false) := decide_eq_false (fun e => hlen (by
          rw [e.2, hl] at hk
          injection hk with hk
          rw [hmk, hml, hk]))
        have d2 : (((mk : Nat) : Int) != ((ml : Nat) : Int)) = true := by
          have : ¬ ((mk : Nat) : Int) = ((ml : Nat) : Int) := by omega
          simpa using this
        clear hi hsm hk hl hI1 hI2 hmk hml hlen
        go_wp2_with fail
        go_quiet (fail)
        go_wp2_with fail
        go_ret
        exact ⟨ret_bool (by first | exact HE.out.symm | simpa using HE.out.symm), by repeat (first | exact HBV.out | (refine bel_drewN ?_ _) | (refine bel_alloc ?_ _))⟩
      subst hlen
      have d2 : (((mk : Nat) : Int) != ((mk : Nat) : Int)) = false := by simp
      have HMK := Lib.hid hmk
      have HML := Lib.hid hml
      clear hi hsm hk hl hI1 hI2 hmk hml
      go_wp2_with fail
      go_quiet (fail)
      go_wp2_with fail
      go_loopg [6] mk (fun gk v6 wr => ∃ j q : Nat, v6 = .int .i64 ((j : Nat) : Int) ∧ j + gk = mk ∧ wr = V.drewN q ∧ (∀ p, p < j → k[p]? = l[p]?))
      case atStart => exact ⟨0, _, rfl, by omega, by first | rfl | (rw [World.drewN_drewN]), fun q hq => by omega⟩
      case round =>
        obtain ⟨j, q2, rfl, hj, rfl, hsm2⟩ := hrel
        have HJ := Lib.hid hj
        have HSM2 := Lib.hid hsm2
        have p0 : (0 : Int) ≤ ((j : Nat) : Int) := by omega
        by_cases hlt2 : j < mk
        · obtain ⟨s, hs⟩ : ∃ s, k[j]? = some s := ⟨_, List.getElem?_eq_getElem (by rw [← HMK.out]; exact hlt2)⟩
          obtain ⟨t, ht⟩ : ∃ t, l[j]? = some t := ⟨_, List.getElem?_eq_getElem (by rw [← HML.out]; exact hlt2)⟩
          obtain ⟨x1, y1, rfl, lx1, e1⟩ := ints_at HI1.out hs
          obtain ⟨x2, y2, rfl, lx2, e2⟩ := ints_at HI2.out ht
          have p1 : ((j : Nat) : Int) < ((mk : Nat) : Int) := by omega
          have HSJ := Lib.hid (step_i (j := j) (by omega))
          have HS1 := Lib.hid hs
          have HT1 := Lib.hid ht
          clear hj hsm2 hs ht
          by_cases he : s = t
          · subst he
            have d3 : (s != s) = false := by simp
            go_wp2_with fail
            go_quiet (fail)
            go_wp2_with fail
            go_roundg (gk - 1)
            case measure => have := HJ.out; omega
            case rel => exact ⟨j + 1, _, by first | rfl | (rw [HSJ.out.1]) | (congr 1; exact HSJ.out.1), by have := HJ.out; omega, by first | rfl | (rw [World.drewN_drewN]), fun p hp => by
              rcases Nat.lt_succ_iff_lt_or_eq.1 hp with c | c
              · exact HSM2.out p c
              · rw [c, HS1.out, HT1.out]⟩
          · have d3 : (s != t) = true := by simpa using he
            have HE : Hid (decide (v = v ∧ C = D) = false) := decide_eq_false (fun e => by
              have h1 := HK.out
              rw [e.2, HL.out] at h1
              injection h1 with h1
              have h2 := HS1.out
              rw [← h1, HT1.out] at h2
              injection h2 with h2
              exact he h2.symm)
            clear he
            go_wp2_with fail
            go_quiet (fail)
            go_wp2_with fail
            go_ret
            exact ⟨ret_bool (by first | exact HE.out.symm | simpa using HE.out.symm), by repeat (first | exact HBV.out | (refine bel_drewN ?_ _) | (refine bel_alloc ?_ _))⟩
        · have p1 : decide (((j : Nat) : Int) < ((mk : Nat) : Int)) = false := decide_eq_false (by omega)
          obtain rfl : j = mk := by omega
          have HKL : Hid (k = l) := ints_ext (by rw [← HMK.out, ← HML.out]) (by rw [← HMK.out]; exact HSM2.out)
          clear hj hsm2
          go_wp2_with fail
          go_roundg (gO - 1)
          case measure => have := HI.out; omega
          case rel => exact ⟨i + 1, _, by first | rfl | (rw [HS.out.1]) | (congr 1; exact HS.out.1), by have := HI.out; omega, rfl, fun p hp => by
            rcases Nat.lt_succ_iff_lt_or_eq.1 hp with c | c
            · exact HSM.out p c
            · rw [c, HK.out, HL.out, HKL.out]⟩
    · have q1 : decide (((i : Nat) : Int) < ((n : Nat) : Int)) = false := decide_eq_false (by omega)
      obtain rfl : i = n := by omega
      have HE : Hid (decide (v = v ∧ C = D) = true) := decide_eq_true ⟨rfl, cls_ext (by rw [← HN.out, ← HM.out]) (by rw [← HN.out]; exact HSM.out)⟩
      clear hi hsm
      go_wp2_with fail
      go_ret
      exact ⟨ret_bool (by first | exact HE.out.symm | simpa using HE.out.symm), by repeat (first | exact HBV.out | (refine bel_drewN ?_ _) | (refine bel_alloc ?_ _))⟩
end Cf
end Go.Proofs.YtcpehdeddgfpmaaDoor
