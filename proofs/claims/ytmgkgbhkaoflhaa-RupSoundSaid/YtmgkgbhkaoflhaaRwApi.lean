/-
  What the program's Check and Follows answer.
-/
import Derived.Test.YtmgkgbhkaoflhaaB2
import Derived.Test.YtmgkgbhkaoflhaaCuUnits
import Derived.Test.YtmgkgbhkaoflhaaRpApi
import Derived.Laws.OwnMore
namespace Go.Proofs.Ytmgkgbhkaoflhaa
open Go.RowKit
namespace Rw
open Cf Rp
set_option maxHeartbeats 6400000
set_option maxRecDepth 100000

theorem mayC_one (v : Int) (l : List Int) : mayC v [l] = (mayV v && areL v l) := by unfold mayC areL; simp
theorem mayC_is (v : Int) (P : Cl) : mayC v P = (mayV v && P.all fun k => areL v k) := rfl
theorem arelits_any {W : World} {kal : Option Addr} {l : List Int} {n kc : Nat} {v : Int} (h : IntsAt W kal l) (hn : n = l.length) (hl : ∀ x ∈ l, I64 x) (hsz : n ≤ 1000000) :
    Calls Try.prog 17 #[.slice kal n kc, .int .i64 v] W fun e w => e = .returned (.bool (mayC v [l])) ∧ Below W.heap.size W w := by
  have hb := bel_alloc (Below.refl W.heap.size W) (.cells #[.slice kal n kc] 25)
  have HM := Lib.hid (cmay_any (v := v) (c := 1) (cls_one (kc := kc) h hn) ⟨by simp, fun k hk => by simp at hk; subst hk; omega, fun k hk => by simp at hk; subst hk; exact hl⟩)
  have HB := Lib.hid hb
  have hbv := build_vs
  clear h hn hl hb
  go_enter Try.func17, Try.ntmps17
  go_wp2_with fail
  refine HM.out.mono ?_
  rintro e w ⟨rfl, hb⟩
  have HB2 := Lib.hid hb
  clear hb
  go_wp2_with fail
  go_ret
  exact ⟨rfl, bel_call HB.out HB2.out⟩
theorem i64_of {v : Int} {C : Cl} (_h : mayC v C = true) (hok : OkC C) : ∀ k ∈ C, ∀ l ∈ k, I64 l := hok.l
theorem len_flat : ∀ {C : Cl} {k : List Int}, k ∈ C → k.length ≤ C.flatten.length
  | [], k, h => by cases h
  | x :: r, k, h => by
    simp only [List.flatten_cons, List.length_append]
    rcases List.mem_cons.1 h with rfl | h
    · omega
    · have := len_flat h; omega
theorem check_any {W : World} {al gl pl : Option Addr} {C P : Cl} {g : List Int} {v : Int} {n c gn gc pn pc : Nat} (hC : ClsAt W al C) (hn : n = C.length) (hok : OkC C) (hG : IntsAt W gl g) (hgn : gn = g.length) (hgi : ∀ l ∈ g, I64 l) (hP : ClsAt W pl P) (hpn : pn = P.length) (hokP : OkC P) (h1 : C.flatten.length + P.flatten.length ≤ 1000) (h2 : C.length + P.length ≤ 1000) (h3 : gn ≤ 100) :
    Calls Try.prog 9 #[.agg #[.int .i64 v, .slice al n c], .slice gl gn gc, .slice pl pn pc] W fun e w => e = .returned (.int .i64 (checkP v C g P)) ∧ Below W.heap.size W w := by
  have hbv := build_vs
  have hb1 := bel_alloc (Below.refl W.heap.size W) (.cells #[.int .i64 v, .slice al n c] 24)
  have c0 := new_cell W #[.int .i64 v, .slice al n c] 24 0
  have c1 := new_cell W #[.int .i64 v, .slice al n c] 24 1
  have hsz : W.heap.size < (W.alloc (.cells #[.int .i64 v, .slice al n c] 24)).heap.size := by simp
  obtain ⟨b0, hb0⟩ : ∃ b0, b0 = W.heap.size := ⟨_, rfl⟩
  have HALL := Lib.hid (And.intro hC (And.intro hok (And.intro hG (And.intro hgi (And.intro hP hokP)))))
  have HN := Lib.hid (And.intro hn (And.intro hgn hpn))
  have HSZ := Lib.hid (And.intro h1 (And.intro h2 h3))
  have HB0 := Lib.hid hb0
  have HMC : Hid (∀ w : World, Below W.heap.size W w → Calls Try.prog 16 #[.agg #[.int .i64 v, .slice al n c]] w fun e w' => e = .returned (.bool (mayC v C)) ∧ Below w.heap.size w w') := Lib.hid fun w hb => by rw [hn]; exact cmay_any (hC.keep hb) hok
  have HMP : Hid (∀ w : World, Below W.heap.size W w → Calls Try.prog 16 #[.agg #[.int .i64 v, .slice pl pn pc]] w fun e w' => e = .returned (.bool (mayC v P)) ∧ Below w.heap.size w w') := Lib.hid fun w hb => by rw [hpn]; exact cmay_any (hP.keep hb) hokP
  have HAR : Hid (∀ w : World, Below W.heap.size W w → Calls Try.prog 17 #[.slice gl gn gc, .int .i64 v] w fun e w' => e = .returned (.bool (mayC v [g])) ∧ Below w.heap.size w w') := Lib.hid fun w hb => arelits_any (hG.keep hb) hgn hgi (by omega)
  clear hC hok hG hgi hP hokP hn hgn hpn h1 h2 h3
  go_enter Try.func9, Try.ntmps9
  go_wp2_with fail
  rw [← hb0]
  have HB1 := Lib.hid hb1
  rw [← hb0] at c0 c1 hsz
  generalize W.alloc (.cells #[.int .i64 v, .slice al n c] 24) = w1 at *
  have c0 : w1.cell? ⟨b0, 0, none⟩ = some (.int .i64 v) := c0
  have c1 : w1.cell? ⟨b0, 1, none⟩ = some (.slice al n c) := c1
  clear hb1 hb0
  refine (HMC.out _ HB1.out).mono ?_
  rintro e w2 ⟨rfl, hb2⟩
  have HB2 := Lib.hid (bel_call HB1.out hb2)
  cases hm : mayC v C with
  | false =>
    have HE : Hid (checkP v C g P = 2) := Lib.hid (by unfold checkP; rw [hm]; rfl)
    clear hm hb2 c0 c1
    go_wp2_with fail
    go_ret
    exact ⟨by rw [HE.out]; rfl, HB2.out⟩
  | true =>
    have hmv := (mayC_parts hm).1
    have d0 := (hb2.cell (p := ⟨b0, 0, none⟩) hsz).trans c0
    have d1 := (hb2.cell (p := ⟨b0, 1, none⟩) hsz).trans c1
    have hs2 : b0 < w2.heap.size := Nat.lt_of_lt_of_le hsz hb2.size
    clear hb2 c0 c1 hsz
    go_wp2_with fail
    refine (HAR.out _ HB2.out).mono ?_
    rintro e w3 ⟨rfl, hb3⟩
    have HB3 := Lib.hid (bel_call HB2.out hb3)
    have e0 := (hb3.cell (p := ⟨b0, 0, none⟩) hs2).trans d0
    have e1 := (hb3.cell (p := ⟨b0, 1, none⟩) hs2).trans d1
    have hs3 : b0 < w3.heap.size := Nat.lt_of_lt_of_le hs2 hb3.size
    have hga : mayC v [g] = areL v g := by rw [mayC_one, hmv]; rfl
    rw [hga]
    clear hb3 d0 d1 hs2 hga
    cases ha : areL v g with
    | false =>
      have HE : Hid (checkP v C g P = 2) := Lib.hid (by unfold checkP; rw [hm, ha]; rfl)
      clear hm ha e0 e1 hmv
      go_wp2_with fail
      go_ret
      exact ⟨by rw [HE.out]; rfl, HB3.out⟩
    | true =>
      go_wp2_with fail
      refine (HMP.out _ HB3.out).mono ?_
      rintro e w4 ⟨rfl, hb4⟩
      have HB4 := Lib.hid (bel_call HB3.out hb4)
      have f0 := (hb4.cell (p := ⟨b0, 0, none⟩) hs3).trans e0
      have f1 := (hb4.cell (p := ⟨b0, 1, none⟩) hs3).trans e1
      have hpa : mayC v P = P.all fun k => areL v k := by rw [mayC_is, hmv]; rfl
      rw [hpa]
      clear hb4 e0 e1 hs3 hpa
      cases hp : P.all fun k => areL v k with
      | false =>
        have HE : Hid (checkP v C g P = 2) := Lib.hid (by unfold checkP; rw [hm, ha, hp]; rfl)
        clear hm ha hp f0 f1 hmv
        go_wp2_with fail
        go_ret
        exact ⟨by rw [HE.out]; rfl, HB4.out⟩
      | true =>
        have HE : Hid (checkP v C g P = match runP v C P with | none => 5 | some D => if (unitsC v D g).2 then 5 else 0) := Lib.hid (by unfold checkP; rw [hm, ha, hp]; rfl)
        have hvv : 0 ≤ v ∧ v ≤ 1000000 := by unfold mayV at hmv; simpa using hmv
        obtain ⟨vn, rfl⟩ : ∃ vn : Nat, v = ((vn : Nat) : Int) := ⟨v.toNat, by omega⟩
        have hvn : vn ≤ 1000000 := by omega
        have HMM := Lib.hid (And.intro hm (And.intro ha (List.all_eq_true.1 hp)))
        have HNW := Lib.hid (new_any (B := w4.heap.size) (cap := c) rfl hvn (HALL.out.1.keep HB4.out) HN.out.1 hm (by have := HSZ.out.2.1; have := HN.out.1; omega) (fun k hk => by have := len_flat hk; have := HSZ.out.1; omega))
        clear hm ha hp hmv hvv
        go_wp2_with fail
        refine HNW.out.mono ?_
        rintro e w5 ⟨k, L5, s5, rfl, hk5, hb5, hT5, hc5, hi5, hl5⟩
        have H5 := Lib.hid (And.intro hk5 (And.intro hb5 (And.intro hc5 (And.intro hi5 hl5))))
        have HTH := Lib.hid (thru_any (cap := pc) hk5 hvn rfl hb5 HMM.out.1 hc5 (HALL.out.2.2.2.2.1.keep HB4.out) HN.out.2.2 HMM.out.2.2 (fun q hq => by have := len_flat hq; have := HSZ.out.1; omega) (by have := HSZ.out.2.1; have := HN.out.2.2; omega) hl5)
        have HB5 := Lib.hid (bel_call HB4.out hb5)
        clear hk5 hb5 hT5 hc5 hi5 hl5 HNW f0 f1
        go_wp2_with fail
        refine HTH.out.mono ?_
        rintro e w6 ⟨hb6, ⟨rfl, hr⟩ | ⟨rfl, D, L6, s6, hr, hk6, hc6, hi6, hl6⟩⟩
        · rw [hr] at HE
          have HB6 := Lib.hid (HB5.out.trans (hb6.mono (by have := HB4.out.size; omega)))
          clear hb6 hr HTH
          go_wp2_with fail
          go_ret
          exact ⟨by rw [HE.out]; rfl, HB6.out⟩
        · rw [hr] at HE
          have hb46 := H5.out.2.1.trans hb6
          have HRF := Lib.hid (refu_any (gl := gl) (g := g) (n := gn) (cap := gc) hk6 hvn rfl hb46 (run_may hr HMM.out.1) hc6 (HALL.out.2.2.1.keep HB4.out) HN.out.2.1 HMM.out.2.1 (by have := HSZ.out.2.2; omega) (by have := H5.out.2.2.2.1; have := HSZ.out.2.1; omega) hl6)
          have HB6 := Lib.hid (And.intro (bel_call HB4.out hb46) (And.intro hb46 hb6))
          clear hb6 hr hk6 hc6 hi6 hl6 HTH hb46
          have HE2 : Hid (checkP ((vn : Nat) : Int) C g P = if (unitsC ((vn : Nat) : Int) D g).2 then 5 else 0) := HE
          clear HE
          go_wp2_with fail
          refine HRF.out.mono ?_
          rintro e w7 ⟨rfl, hb7⟩
          have HB7 := Lib.hid (HB6.out.1.trans (hb7.mono (by have := HB4.out.size; omega)))
          clear hb7 HRF
          cases hu : (unitsC ((vn : Nat) : Int) D g).2 with
          | true =>
            rw [hu] at HE2
            clear hu
            go_wp2_with fail
            go_ret
            exact ⟨by rw [HE2.out]; rfl, HB7.out⟩
          | false =>
            rw [hu] at HE2
            clear hu
            go_wp2_with fail
            go_ret
            exact ⟨by rw [HE2.out]; rfl, HB7.out⟩
theorem negs_len (T : List Int) : (negs T).length = T.length := by unfold negs; simp
theorem negs_i64 {v : Int} {T : List Int} (h : areL v T = true) : areL v (negs T) = true := List.all_eq_true.2 fun x hx => by
  obtain ⟨y, hy, rfl⟩ := List.mem_map.1 hx
  exact isL_neg (List.all_eq_true.1 h y hy)
theorem zeros_one (n : Nat) : (madeCells (Value.int .i64 0).cells (n * 1)).toList = rowI (List.replicate n 0) := by
  rw [made_one _ rfl]
  simp [rowI]
theorem make_list (n : Nat) (hn : n ≤ 1000000) (W : World) : ∃ w', (Instr.makeSlice 25 (.int .i64 ((n : Nat) : Int)) (.int .i64 ((n : Nat) : Int))).run Try.prog W = .ok (.slice (some ⟨W.heap.size, 0, none⟩) n n) w' ∧ w'.ownsRow W.heap.size 3 1 (.slice (some ⟨W.heap.size, 0, none⟩) n n) n (rowI (List.replicate n 0)) ∧ Below W.heap.size W w' := by
  obtain ⟨i0, hinfo, hz0, hz1, hz2⟩ := infos info_int
  obtain ⟨w', h1, h2, h3⟩ := run_make_full (P := Try.prog) W W.heap.size 25 3 i0 (.int .i64 0) 1 Try.underlying25 hinfo hz0 hz1 .i64 .i64 n (by rw [hz2]; omega) (by unfold maxLen; omega) (Nat.le_refl _)
  rw [zeros_one] at h2
  exact ⟨w', h1, h2, ⟨h3.os, h3.tape, h3.output, h3.size, fun b hb => h3.block b hb (fun e => by cases e)⟩⟩
theorem follows_out {W : World} {al kl : Option Addr} {C : Cl} {T : List Int} {v : Int} {n c len kc : Nat} (hC : ClsAt W al C) (hn : n = C.length) (hok : OkC C) (hK : IntsAt W kl T) (hl : len = T.length) (hti : ∀ l ∈ T, I64 l) (h1 : C.flatten.length ≤ 1000) (h2 : n ≤ 1000) (h3 : len ≤ 100) :
    Calls Try.prog 11 #[.agg #[.int .i64 v, .slice al n c], .slice kl len kc] W fun e w => e = .returned (.bool (followsP v C T)) ∧ Below W.heap.size W w := by
  have hb1 := bel_alloc (Below.refl W.heap.size W) (.cells #[.int .i64 v, .slice al n c] 24)
  have c0 := new_cell W #[.int .i64 v, .slice al n c] 24 0
  have c1 := new_cell W #[.int .i64 v, .slice al n c] 24 1
  have hsz : W.heap.size < (W.alloc (.cells #[.int .i64 v, .slice al n c] 24)).heap.size := by simp
  obtain ⟨b0, hb0⟩ : ∃ b0, b0 = W.heap.size := ⟨_, rfl⟩
  have HALL := Lib.hid (And.intro hC (And.intro hok hK))
  have HN := Lib.hid (And.intro hn hl)
  have HSZ := Lib.hid (And.intro h1 (And.intro h2 h3))
  have HB0 := Lib.hid hb0
  have HMC : Hid (∀ w : World, Below W.heap.size W w → Calls Try.prog 16 #[.agg #[.int .i64 v, .slice al n c]] w fun e w' => e = .returned (.bool (mayC v C)) ∧ Below w.heap.size w w') := Lib.hid fun w hb => by rw [hn]; exact cmay_any (hC.keep hb) hok
  have HAR : Hid (∀ w : World, Below W.heap.size W w → Calls Try.prog 17 #[.slice kl len kc, .int .i64 v] w fun e w' => e = .returned (.bool (mayC v [T])) ∧ Below w.heap.size w w') := Lib.hid fun w hb => arelits_any (hK.keep hb) hl hti (by omega)
  clear hC hok hK hti hn hl h1 h2
  go_enter Try.func11, Try.ntmps11
  go_wp2_with fail
  rw [← hb0]
  have HB1 := Lib.hid hb1
  rw [← hb0] at c0 c1 hsz
  generalize W.alloc (.cells #[.int .i64 v, .slice al n c] 24) = w1 at *
  have c0 : w1.cell? ⟨b0, 0, none⟩ = some (.int .i64 v) := c0
  have c1 : w1.cell? ⟨b0, 1, none⟩ = some (.slice al n c) := c1
  clear hb1 hb0
  refine (HMC.out _ HB1.out).mono ?_
  rintro e w2 ⟨rfl, hb2⟩
  have HB2 := Lib.hid (bel_call HB1.out hb2)
  cases hm : mayC v C with
  | false =>
    have HE : Hid (followsP v C T = false) := Lib.hid (by unfold followsP; rw [hm]; rfl)
    clear hm hb2 c0 c1
    go_wp2_with fail
    go_ret
    exact ⟨by rw [HE.out]; rfl, HB2.out⟩
  | true =>
    have hmv := (mayC_parts hm).1
    have d0 := (hb2.cell (p := ⟨b0, 0, none⟩) hsz).trans c0
    have d1 := (hb2.cell (p := ⟨b0, 1, none⟩) hsz).trans c1
    have hs2 : b0 < w2.heap.size := Nat.lt_of_lt_of_le hsz hb2.size
    clear hb2 c0 c1 hsz
    go_wp2_with fail
    refine (HAR.out _ HB2.out).mono ?_
    rintro e w3 ⟨rfl, hb3⟩
    have HB3 := Lib.hid (bel_call HB2.out hb3)
    have e0 := (hb3.cell (p := ⟨b0, 0, none⟩) hs2).trans d0
    have e1 := (hb3.cell (p := ⟨b0, 1, none⟩) hs2).trans d1
    have hs3 : b0 < w3.heap.size := Nat.lt_of_lt_of_le hs2 hb3.size
    have hga : mayC v [T] = areL v T := by rw [mayC_one, hmv]; rfl
    rw [hga]
    clear hb3 d0 d1 hs2 hga
    cases ha : areL v T with
    | false =>
      have HE : Hid (followsP v C T = false) := Lib.hid (by unfold followsP; rw [hm, ha]; rfl)
      clear hm ha e0 e1 hmv
      go_wp2_with fail
      go_ret
      exact ⟨by rw [HE.out]; rfl, HB3.out⟩
    | true =>
      have HE : Hid (followsP v C T = !(unitsC v C (negs T)).2) := Lib.hid (by unfold followsP; rw [hm, ha]; rfl)
      have hvv : 0 ≤ v ∧ v ≤ 1000000 := by unfold mayV at hmv; simpa using hmv
      obtain ⟨vn, rfl⟩ : ∃ vn : Nat, v = ((vn : Nat) : Int) := ⟨v.toNat, by omega⟩
      have HMM := Lib.hid (And.intro hm ha)
      obtain ⟨w4, hmk, hrow, hb4⟩ := make_list len (by omega) w3
      have HB4 := Lib.hid (bel_call HB3.out hb4)
      have f0 := (hb4.cell (p := ⟨b0, 0, none⟩) hs3).trans e0
      have f1 := (hb4.cell (p := ⟨b0, 1, none⟩) hs3).trans e1
      obtain ⟨nb, hnb⟩ : ∃ nb, nb = w3.heap.size := ⟨_, rfl⟩
      rw [← hnb] at hmk hrow hs3
      have HNB := Lib.hid (And.intro hnb hs3)
      have HR4 := Lib.hid hrow
      clear hm ha hmv hvv hb4 hrow hnb
      go_wp2_with fail
      clear hmk e0 e1
      go_loopg [25] len (fun gk v25 wr => ∃ (j : Nat) (zs : List Int), v25 = .int .i64 ((j : Nat) : Int) ∧ j + gk = len ∧ zs.length = len ∧ zs.take j = negs (T.take j) ∧ wr.ownsRow nb 3 1 (.slice (some ⟨nb, 0, none⟩) len len) len (rowI zs) ∧ w4.grownBy wr (some nb))
      case atStart => exact ⟨0, List.replicate len 0, rfl, by omega, by simp, by simp [negs], HR4.out, ⟨rfl, rfl, rfl, Nat.le_refl _, fun _ _ _ => rfl⟩⟩
      case round =>
        obtain ⟨j, zs, rfl, hj, hz1, hz2, hr, hg⟩ := hrel
        have HJ := Lib.hid hj
        have j0 : (0 : Int) ≤ ((j : Nat) : Int) := by omega
        have HZ := Lib.hid (And.intro hz1 (And.intro hz2 (And.intro hr hg)))
        by_cases hlt2 : j < len
        · have q2 : ((j : Nat) : Int) < ((len : Nat) : Int) := by omega
          obtain ⟨l, hl⟩ : ∃ l, T[j]? = some l := ⟨_, List.getElem?_eq_getElem (by have := HN.out.2; omega)⟩
          obtain ⟨kb, ko, rfl, hkb, hlc⟩ := ints_at (HALL.out.2.2) hl
          have hkn : kb ≠ nb := by have := HNB.out.1; have := HB3.out.size; omega
          have hlc : wr.cell? ⟨kb, ko + j, none⟩ = some (.int .i64 l) := (World.cell?_of_block (a := ⟨kb, ko + j, none⟩) (hg.block kb (by have := HB4.out.size; omega) (fun e => hkn (by injection e)))).trans ((HB4.out.cell (p := ⟨kb, ko + j, none⟩) hkb).trans hlc)
          have hll := List.all_eq_true.1 HMM.out.2 l (List.mem_of_getElem? hl)
          have l1 := isL_ne hll
          have hmb := (mayC_parts HMM.out.1).1
          have hvn : ((vn : Nat) : Int) ≤ 1000000 := by unfold mayV at hmb; simp at hmb; omega
          have l2 : wrap64 (-l) = -l := by unfold wrap64; omega
          obtain ⟨z0, hz0⟩ : ∃ z0, zs[j]? = some z0 := ⟨_, List.getElem?_eq_getElem (by omega)⟩
          have hzc : wr.cell? ⟨nb, j, none⟩ = some (.int .i64 z0) := by rw [hr.cellAt j (by omega)]; simp [rowI, hz0]
          have hzf := hr.frozenAt j
          have HS := Lib.hid (hr.stored j (.int .i64 (-l)))
          have HLL := Lib.hid hl
          clear hj hz1 hz2 hr hg hl hll hkb hz0 hmb
          go_wp2_with fail
          go_roundg (gk - 1)
          case measure => have := HJ.out; omega
          case rel =>
            refine ⟨j + 1, zs.set j (-l), rfl, by have := HJ.out; omega, by rw [List.length_set]; exact HZ.out.1, ?_, by rw [← rowI_up]; exact HS.out.1, ?_⟩
            · rw [List.take_add_one, List.take_add_one, HLL.out, List.take_set_of_le (Nat.le_refl _), HZ.out.2.1, List.getElem?_set_self (by have := HZ.out.1; omega)]
              simp [negs]
            · have h5 := HZ.out.2.2.2
              have h6 := HS.out.2
              exact ⟨h6.os.trans h5.os, h6.tape.trans h5.tape, h6.output.trans h5.output, Nat.le_trans h5.size h6.size, fun b hb hne => (h6.block b (Nat.lt_of_lt_of_le hb h5.size) hne).trans (h5.block b hb hne)⟩
        · obtain rfl : j = len := by omega
          have q2 : decide (((j : Nat) : Int) < ((j : Nat) : Int)) = false := decide_eq_false (by omega)
          have hzn : zs = negs T := by
            have h5 := hz2
            rw [List.take_of_length_le (by omega), List.take_of_length_le (by have := HN.out.2; omega)] at h5
            exact h5
          have hbn : b0 ≠ nb := by have := HNB.out.2; omega
          have g0 : wr.cell? ⟨b0, 0, none⟩ = some (.int .i64 ((vn : Nat) : Int)) := hg.cell f0 (fun e => hbn (by injection e))
          have g1 : wr.cell? ⟨b0, 1, none⟩ = some (.slice al n c) := hg.cell f1 (fun e => hbn (by injection e))
          have hin : IntsAt wr (some ⟨nb, 0, none⟩) (negs T) := by
            by_cases he : negs T = []
            · exact .inl he
            · refine .inr ⟨nb, 0, rfl, (hr.lt nb rfl).2, fun i x hx => ?_⟩
              rw [Nat.zero_add, hr.cellAt i (by have := (List.getElem?_eq_some_iff.1 hx).1; rw [negs_len] at this; have := HN.out.2; omega), hzn]
              simp [rowI, hx]
          have HBW : Hid (Below W.heap.size W wr) := Lib.hid (HB4.out.trans ⟨hg.os, hg.tape, hg.output, hg.size, fun b hb => hg.block b (by have := HB4.out.size; omega) (fun e => by injection e with e; have := HNB.out.1; have := HB3.out.size; omega)⟩)
          have HU := Lib.hid (cunits_yes (c := c) (gc := j) (HALL.out.1.keep HBW.out) HALL.out.2.1 hin HMM.out.1 (by rw [negs_len]; have := HSZ.out; have := HN.out; omega))
          rw [← HN.out.1, negs_len, ← HN.out.2] at HU
          clear hj hz1 hz2 hr hg hzn hbn hin f0 f1
          go_wp2_with fail
          refine HU.out.mono ?_
          rintro e w7 ⟨a7, c7, rfl, _, hb7⟩
          have HB7 := Lib.hid (bel_call HBW.out hb7)
          clear hb7 HU
          go_wp2_with fail
          go_ret
          exact ⟨by rw [HE.out]; rfl, HB7.out⟩
theorem api : Api :=
  ⟨fun _ _ _ _ _ _ _ _ _ _ _ _ _ _ a1 a2 a3 _ a5 a6 a7 a8 a9 a10 a11 a12 a13 => check_any a1 a2 a3 a5 a6 a7 a8 a9 a10 a11 a12 a13,
    fun _ _ _ _ _ _ _ _ _ _ a1 a2 a3 _ a5 a6 a7 a8 a9 a10 => follows_out a1 a2 a3 a5 a6 a7 a8 a9 a10⟩
end Rw
end Go.Proofs.Ytmgkgbhkaoflhaa
