/-
  The document's Check.
-/
import Derived.Test.YtmgkgbhkaoflhaaRpBox
import Derived.Deep.Cut
import Derived.Deep.DeepMust
namespace Go.Proofs.Ytmgkgbhkaoflhaa
open Go.RowKit
namespace Rp
open Cf
set_option maxHeartbeats 3200000
set_option maxRecDepth 100000

theorem runits_of {W : World} {al gl : Option Addr} {C : Cl} {g : List Int} {v : Int} {n c gn gc : Nat} (h : ClsAt W al C) (hn : n = C.length) (hok : OkC C) (hg : IntsAt W gl g) (hgn : gn = g.length) (hm : mayC v C = true) (hsz : gn + C.flatten.length ≤ 1000000) :
    Calls Try.prog 22 #[.agg #[.int .i64 v, .slice al n c], .slice gl gn gc] W fun e w => ∃ x, e = .returned (.tuple #[x, .bool (unitsC v C g).2]) ∧ Below W.heap.size W w := by
  subst hn hgn
  refine (runits_yes h hok hg hm hsz).mono ?_
  rintro e w ⟨x, rfl, hgr⟩
  exact ⟨x, rfl, hgr.bel⟩
theorem rcheck_may {W : World} {al gl pl : Option Addr} {C : Cl} {g : List Int} {P : Cl} {v : Int} {n c gn gc pn pc : Nat} (h : ClsAt W al C) (hn : n = C.length) (hok : OkC C) (hm : mayC v C = false) :
    Calls Try.prog 10 #[.agg #[.int .i64 v, .slice al n c], .slice gl gn gc, .slice pl pn pc] W fun e w => e = .returned (.int .i64 (checkP v C g P)) ∧ Below W.heap.size W w := by
  subst hn
  have HM := Lib.hid (fun (w : World) (hb : Below W.heap.size W w) => rmay_any (W := w) (v := v) (c := c) (h.keep hb) hok)
  rw [hm] at HM
  have HE : Hid (checkP v C g P = 2) := Lib.hid (by unfold checkP; rw [hm]; rfl)
  clear h hok hm
  go_enter Try.func10, Try.ntmps10
  go_wp2_with fail
  refine (HM.out _ (bel_alloc (Below.refl _ _) _)).mono ?_
  rintro e w1 ⟨rfl, hb1⟩
  go_wp2_with fail
  go_ret
  exact ⟨by rw [HE.out]; rfl, bel_call (bel_alloc (Below.refl _ _) _) hb1⟩
theorem rcheck_are {W : World} {al gl pl : Option Addr} {C : Cl} {g : List Int} {P : Cl} {v : Int} {n c gn gc pn pc : Nat} (h : ClsAt W al C) (hn : n = C.length) (hok : OkC C) (hg : IntsAt W gl g) (hgn : gn = g.length) (hgb : gn ≤ 1000000) (hm : mayC v C = true) (ha : areL v g = false) :
    Calls Try.prog 10 #[.agg #[.int .i64 v, .slice al n c], .slice gl gn gc, .slice pl pn pc] W fun e w => e = .returned (.int .i64 (checkP v C g P)) ∧ Below W.heap.size W w := by
  subst hn
  have HM := Lib.hid (fun (w : World) (hb : Below W.heap.size W w) => rmay_any (W := w) (v := v) (c := c) (h.keep hb) hok)
  obtain ⟨hv0, hv1⟩ := may_v hm
  rw [hm] at HM
  have hgb2 : gn < 4611686018427387904 := by omega
  have HA := Lib.hid (fun (w : World) (hb : Below W.heap.size W w) => rare_any (c := gc) (hg.keep hb) hgn hgb2 hv0 hv1)
  rw [ha] at HA
  have HE : Hid (checkP v C g P = 2) := Lib.hid (by unfold checkP; rw [hm, ha]; rfl)
  clear h hok hm hg hgn hgb ha
  go_enter Try.func10, Try.ntmps10
  go_wp2_with fail
  refine (HM.out _ (bel_alloc (Below.refl _ _) _)).mono ?_
  rintro e w1 ⟨rfl, hb1⟩
  have hc0 : w1.cell? ⟨W.heap.size, 0, none⟩ = some (.int .i64 v) := (hb1.cell (p := ⟨W.heap.size, 0, none⟩) (by simp)).trans (new_cell _ _ _ _)
  have HB1 := Lib.hid (bel_call (bel_alloc (Below.refl _ _) _) hb1)
  clear hb1
  go_wp2_with fail
  refine (HA.out _ HB1.out).mono ?_
  rintro e w2 ⟨rfl, rfl⟩
  go_wp2_with fail
  go_ret
  exact ⟨by rw [HE.out]; rfl, HB1.out⟩
theorem rcheck_go {W : World} {al gl pl : Option Addr} {C : Cl} {g : List Int} {P : Cl} {v : Int} {n c gn gc pn pc : Nat} (h : ClsAt W al C) (hn : n = C.length) (hok : OkC C) (hnc : al = none → c = 0) (hg : IntsAt W gl g) (hgn : gn = g.length) (hP : ClsAt W pl P) (hpn : pn = P.length) (hokP : OkC P)
    (hsz : C.flatten.length + P.flatten.length ≤ 300) (hcp : C.length + P.length ≤ 100) (hgb : gn ≤ 100) (hm : mayC v C = true) (ha : areL v g = true) :
    Calls Try.prog 10 #[.agg #[.int .i64 v, .slice al n c], .slice gl gn gc, .slice pl pn pc] W fun e w => e = .returned (.int .i64 (checkP v C g P)) ∧ Below W.heap.size W w := by
  subst hn
  have HM := Lib.hid (fun (w : World) (hb : Below W.heap.size W w) => rmay_any (W := w) (v := v) (c := c) (h.keep hb) hok)
  obtain ⟨hv0, hv1⟩ := may_v hm
  have HMAY := Lib.hid hm
  have HARE := Lib.hid ha
  rw [hm] at HM
  have hgb2 : gn < 4611686018427387904 := by omega
  have HA := Lib.hid (fun (w : World) (hb : Below W.heap.size W w) => rare_any (c := gc) (hg.keep hb) hgn hgb2 hv0 hv1)
  rw [ha] at HA
  have HC := Lib.hid h
  have HOK := Lib.hid hok
  have HNC := Lib.hid hnc
  have HGI := Lib.hid hg
  have HGN := Lib.hid hgn
  have HP := Lib.hid hP
  have HPN := Lib.hid hpn
  have HOKP := Lib.hid hokP
  have HSZ := Lib.hid (And.intro hsz (And.intro hcp hgb))
  have hpb : pn ≤ 100 := by omega
  have hclb : C.length ≤ 100 := by omega
  have hbt := build_v
  clear h hok hnc hg hgn hP hpn hokP hsz hcp hgb hm ha hgb2
  go_enter Try.func10, Try.ntmps10
  go_wp2_with fail
  refine (HM.out _ (bel_alloc (Below.refl _ _) _)).mono ?_
  rintro e w1 ⟨rfl, hb1⟩
  have hc0 : w1.cell? ⟨W.heap.size, 0, none⟩ = some (.int .i64 v) := (hb1.cell (p := ⟨W.heap.size, 0, none⟩) (by simp)).trans (new_cell _ _ _ _)
  have hc1 : w1.cell? ⟨W.heap.size, 1, none⟩ = some (.slice al C.length c) := (hb1.cell (p := ⟨W.heap.size, 1, none⟩) (by simp)).trans (new_cell _ _ _ _)
  have hlt0 : W.heap.size < w1.heap.size := by have := hb1.size; simp at this; omega
  have HB1 := Lib.hid (bel_call (bel_alloc (Below.refl _ _) _) hb1)
  have HC0 := Lib.hid hc0
  have HC1 := Lib.hid hc1
  have HLT0 := Lib.hid hlt0
  clear hb1 HM hc1 hlt0
  go_wp2_with fail
  refine (HA.out _ HB1.out).mono ?_
  rintro e w2 ⟨rfl, rfl⟩
  clear HA
  go_wp2_with fail
  clear hc0
  go_loopg [7] pn (fun gk v7 wr => ∃ i : Nat, v7 = .int .i64 ((i : Nat) : Int) ∧ i + gk = pn ∧ Hid (((P.take i).all fun k => areL v k) = true) ∧ Hid (∃ q, wr = w1.drewN q))
  case atStart => exact ⟨0, rfl, by omega, Lib.hid rfl, Lib.hid ⟨0, rfl⟩⟩
  case round =>
    obtain ⟨i, rfl, hgk, HALL, HQ⟩ := hrel
    have HG := Lib.hid hgk
    have i0 : (0 : Int) ≤ ((i : Nat) : Int) := by omega
    have HBR : Hid (Below W.heap.size W wr) := Lib.hid (by obtain ⟨q, rfl⟩ := HQ.out; exact bel_drewN HB1.out q)
    have c0 : wr.cell? ⟨W.heap.size, 0, none⟩ = some (.int .i64 v) := by obtain ⟨q, rfl⟩ := HQ.out; simpa using HC0.out
    have HQ2 : Hid (∀ j, ∃ q, wr.drewN j = w1.drewN q) := Lib.hid (fun j => by obtain ⟨q, hq⟩ := HQ.out; exact ⟨q + j, by rw [hq, World.drewN_drewN]⟩)
    by_cases hlt : i < pn
    · have g1 : decide (((i : Nat) : Int) < ((pn : Nat) : Int)) = true := decide_eq_true (by omega)
      have g2 : ((i : Nat) : Int) < ((pn : Nat) : Int) := by omega
      obtain ⟨k, hk⟩ : ∃ k, P[i]? = some k := ⟨_, List.getElem?_eq_getElem (by rw [← HPN.out]; exact hlt)⟩
      obtain ⟨pb, po, kal, kc, rfl, hbl, hc, hki⟩ := cls_at (HP.out.keep HBR.out) hk
      have HK := Lib.hid hk
      have hkl := HOKP.out.k k (List.mem_of_getElem? hk)
      have HLT := Lib.hid hlt
      have HS := Lib.hid (step_i (j := i) (by omega))
      obtain ⟨kn, hkn⟩ : ∃ kn, kn = k.length := ⟨_, rfl⟩
      rw [← hkn] at hc hkl
      have HKA := Lib.hid (fun q => rare_any (W := wr.drewN q) (c := kc) (hki.keep (bel_drewN (Below.refl _ _) q)) hkn hkl hv0 hv1)
      clear hgk hk hki hlt hkn
      cases hak : areL v k with
      | true =>
        rw [hak] at HKA
        have HN := Lib.hid (all_take HALL.out HK.out hak)
        clear hak
        go_wp2_with fail
        go_quiet ((go_at_call 21; exact quiet_left (HKA.out _)))
        go_wp2_with fail
        go_roundg (gk - 1)
        case measure => have := HG.out; have := HLT.out; omega
        case rel => exact ⟨i + 1, by first | rfl | (rw [HS.out.1]) | go_num, by have := HG.out; have := HLT.out; omega, HN, Lib.hid (HQ2.out _)⟩
      | false =>
        rw [hak] at HKA
        have HN := Lib.hid (all_not HK.out hak)
        have HE : Hid (checkP v C g P = 2) := Lib.hid (by unfold checkP; rw [HMAY.out, HARE.out, HN.out]; rfl)
        clear hak
        go_wp2_with fail
        go_quiet ((go_at_call 21; exact quiet_left (HKA.out _)))
        go_wp2_with fail
        go_ret
        exact ⟨by rw [HE.out]; rfl, bel_drewN HBR.out _⟩
    · have g1 : decide (((i : Nat) : Int) < ((pn : Nat) : Int)) = false := decide_eq_false (by omega)
      have g2 : ¬ ((i : Nat) : Int) < ((pn : Nat) : Int) := by omega
      have HPA : Hid ((P.all fun k => areL v k) = true) := Lib.hid (by have := HALL.out; rw [List.take_of_length_le (by have := HPN.out; omega)] at this; exact this)
      have c1 : wr.cell? ⟨W.heap.size, 1, none⟩ = some (.slice al C.length c) := by obtain ⟨q, rfl⟩ := HQ.out; simpa using HC1.out
      have lb : W.heap.size < wr.heap.size := by obtain ⟨q, rfl⟩ := HQ.out; exact HLT0.out
      obtain ⟨wA, hwA⟩ : ∃ wA, wA = wr := ⟨_, rfl⟩
      subst hwA
      obtain ⟨gA, hgA⟩ : ∃ gA, gA = gk := ⟨_, rfl⟩
      subst hgA
      clear hgk hlt HALL HQ HQ2 HC0 HC1 HLT0
      go_upto_region 9 with fail
      change Code.wp _ _ _ _ (wA.alloc (.cells #[.int .i64 v, .slice none 0 0] 24))
      have HD2 := Lib.hid (ResAt.new (W := wA) (v := v) (s := .slice none 0 0))
      have hk2 := bel_alloc (Below.refl wA.heap.size wA) (.cells #[.int .i64 v, .slice none 0 0] 24)
      have HB2 := Lib.hid hk2
      have hlt2 : wA.heap.size < (wA.alloc (.cells #[.int .i64 v, .slice none 0 0] 24)).heap.size := by simp
      generalize wA.alloc (.cells #[.int .i64 v, .slice none 0 0] 24) = w2 at hk2 HB2 HD2 hlt2 ⊢
      have d0 := HD2.out.c0
      have d1 := HD2.out.c1
      have df := HD2.out.fr 1
      have e1 : w2.cell? ⟨W.heap.size, 1, none⟩ = some (.slice al C.length c) := (hk2.cell (p := ⟨W.heap.size, 1, none⟩) lb).trans c1
      have HBW2 := Lib.hid (bel_call HBR.out hk2)
      clear hk2 c0 c1
      go_upto_region 10 with (at_builtin; go_must (refine wpList_all (B := w2.heap.size) rfl (.tmp 40) (.tmp 42) rfl rfl HC.out HNC.out HBW2.out (Nat.le_refl _) rfl (by omega) ?_; intro va vc w3 hd3 hg3; have HR3 := Lib.hid hd3; have HG3 := Lib.hid hg3; have HD3 := Lib.hid (HD2.out.grown hg3 (fun e => by cases e)); have x0 := HD3.out.c0; have x1 := HD3.out.c1; have xf := HD3.out.fr 1; clear hd3 hg3))
      have HB3 := Lib.hid (bel_grown HB2.out HG3.out (fun i hi => by cases hi))
      have HB4 := Lib.hid (HB3.out.setCell (p := ⟨wA.heap.size, 1, none⟩) (Nat.le_refl _) (.slice va C.length vc))
      have HD4 := Lib.hid (HD3.out.put (u := .slice va C.length vc))
      have HR4 := Lib.hid (HR3.out.setCell (p := ⟨wA.heap.size, 1, none⟩) (u := .slice va C.length vc) hlt2)
      have HS4 : Hid (w2.heap.size ≤ (w3.setCell ⟨wA.heap.size, 1, none⟩ (.slice va C.length vc)).heap.size) := by
        show _ ≤ _
        have := HG3.out.size
        simpa [World.setCell] using this
      clear d0 d1 df x0 x1 xf e1 HG3 HD3 HR3 HB3 HD2
      generalize w3.setCell ⟨wA.heap.size, 1, none⟩ (.slice va C.length vc) = w4 at HB4 HD4 HR4 HS4 ⊢
      go_wp2_with fail
      go_loopg [9] pn (fun gk v9 wr => ∃ (i : Nat) (D : Cl) (dn dc : Nat) (da : Option Addr), v9 = .int .i64 ((i : Nat) : Int) ∧ i + gk = pn ∧ dn ≤ 100 ∧ Hid (D = C ++ P.take i ∧ dn = D.length ∧ runP v C (P.take i) = some D ∧ ResAt wA.heap.size v (.slice da dn dc) wr ∧ DRow W w2.heap.size (.slice da dn dc) D wr ∧ Below wA.heap.size wA wr ∧ w2.heap.size ≤ wr.heap.size))
      case atStart => exact ⟨0, C, C.length, vc, va, rfl, by omega, hclb, Lib.hid ⟨by simp, rfl, rfl, HD4.out, HR4.out, HB4.out, HS4.out⟩⟩
      case round =>
        obtain ⟨j, D, dn, dc, da, rfl, hgk2, hdn, HST⟩ := hrel
        clear HD4 HR4 HB4 HS4
        have HG2 := Lib.hid hgk2
        have j0 : (0 : Int) ≤ ((j : Nat) : Int) := by omega
        have HBW : Hid (Below W.heap.size W wr) := Lib.hid (bel_call HBR.out HST.out.2.2.2.2.2.1)
        have HDL : Hid (D.length + P.length ≤ 200 ∧ D.flatten.length ≤ 300 ∧ OkC D ∧ mayC v D = true) := Lib.hid (by
          have h1 := HST.out.1
          have h2 := run_may HST.out.2.2.1 HMAY.out
          have h3 := HSZ.out
          have h4 := flat_le P j
          have h5 : (P.take j).length ≤ P.length := by rw [List.length_take]; omega
          refine ⟨?_, ?_, ?_, h2⟩
          · rw [h1, List.length_append]; omega
          · rw [h1, List.flatten_append, List.length_append]; omega
          · rw [h1]; exact okC_app HOK.out (okC_take HOKP.out j) (by omega))
        have HCD : Hid (ClsAt wr da D) := Lib.hid (HST.out.2.2.2.2.1.cls HBW.out)
        have d0 := HST.out.2.2.2.1.c0
        have d1 := HST.out.2.2.2.1.c1
        have df := HST.out.2.2.2.1.fr 1
        have dl := HST.out.2.2.2.1.lt
        by_cases hlt2' : j < pn
        · have g3 : decide (((j : Nat) : Int) < ((pn : Nat) : Int)) = true := decide_eq_true (by omega)
          have g4 : ((j : Nat) : Int) < ((pn : Nat) : Int) := by omega
          obtain ⟨k, hk⟩ : ∃ k, P[j]? = some k := ⟨_, List.getElem?_eq_getElem (by rw [← HPN.out]; exact hlt2')⟩
          obtain ⟨pb, po, kal, kc, hpe, hbl, hc, hki⟩ := cls_at (HP.out.keep HBW.out) hk
          obtain ⟨_, _, kal', kc', hpe', hbl', hc', hki'⟩ := cls_at HP.out hk
          have hpe2 := hpe.symm.trans hpe'
          injection hpe2 with hpe2
          injection hpe2 with hp1 hp2 hp3
          subst hp1 hp2
          have hcx : wr.cell? ⟨pb, po + j, none⟩ = some (.slice kal' k.length kc') := (HBW.out.cell (p := ⟨pb, po + j, none⟩) hbl').trans hc'
          have HKI := Lib.hid hki'
          subst hpe
          have HK := Lib.hid hk
          have hkf : k.length ≤ 300 := by
            have := HSZ.out
            have h2 := flat_take hk
            have h3 := flat_le P (j + 1)
            omega
          have HLT := Lib.hid hlt2'
          have HS := Lib.hid (step_i (j := j) (by omega))
          obtain ⟨kn, hkn⟩ : ∃ kn, kn = k.length := ⟨_, rfl⟩
          have HKN := Lib.hid hkn
          rw [← hkn] at hcx hkf
          have HFO : Hid (∀ w', Below wr.heap.size wr w' → Calls Try.prog 12 #[.agg #[.int .i64 v, .slice da dn dc], .slice kal' kn kc'] w' fun e w5 => e = .returned (.bool (followsP v D k)) ∧ (w5.cell? ⟨wA.heap.size, 0, none⟩ = some (.int .i64 v) ∧ w5.cell? ⟨wA.heap.size, 1, none⟩ = some (.slice da dn dc) ∧ w5.cell? ⟨pb, po + j, none⟩ = some (.slice kal' kn kc')) ∧ Hid (Below wr.heap.size wr w5)) := Lib.hid (fun w' hb => by
            refine (rfollows_any (HCD.out.keep hb) HST.out.2.1 HDL.out.2.2.1 ((HKI.out.keep HBW.out).keep hb) hkn (by have := HDL.out; omega)).mono ?_
            rintro e w5 ⟨rfl, hb5⟩
            have hbb := bel_call hb hb5
            exact ⟨rfl, ⟨(hbb.cell (p := ⟨wA.heap.size, 0, none⟩) dl).trans d0, (hbb.cell (p := ⟨wA.heap.size, 1, none⟩) dl).trans d1, (hbb.cell (p := ⟨pb, po + j, none⟩) (Nat.lt_of_lt_of_le hbl' HBW.out.size)).trans hcx⟩, Lib.hid hbb⟩)
          clear hgk2 hk hki hki' hc hc' hbl hlt2' hkn
          cases hf : followsP v D k with
          | false =>
            rw [hf] at HFO
            have HE : Hid (checkP v C g P = 5) := Lib.hid (by
              have hr := run_stop (i := j) (by rw [HST.out.2.2.1, HST.out.1]) HK.out (by rw [← HST.out.1]; exact hf)
              unfold checkP
              rw [HMAY.out, HARE.out, HPA.out, hr]; rfl)
            clear hf
            go_wp2_with fail
            go_region_held3 (fun w' => w'.cell? ⟨wA.heap.size, 0, none⟩ = some (.int .i64 v) ∧ w'.cell? ⟨wA.heap.size, 1, none⟩ = some (.slice da dn dc) ∧ w'.cell? ⟨pb, po + j, none⟩ = some (.slice kal' kn kc'))
              (first | (refine ⟨?_, ?_, ?_⟩ <;> assumption) | (go_keep; done))
              (first | (go_at_call 12; refine (HFO.out _ ?_).mono ?_; exact ⟨rfl, rfl, rfl, Nat.le_refl _, fun _ _ => rfl⟩; rintro e w5 ⟨rfl, ⟨y0, y1, y2⟩, HX⟩))
            all_goals go_wp2_with fail
            all_goals go_ret
            all_goals exact ⟨by rw [HE.out]; rfl, bel_call HBW.out HX.out⟩
          | true =>
            rw [hf] at HFO
            have HN := Lib.hid (run_next (i := j) (by rw [HST.out.2.2.1, HST.out.1]) HK.out (by rw [← HST.out.1]; exact hf))
            clear hf
            go_wp2_with fail
            go_region_held3 (fun w' => w'.cell? ⟨wA.heap.size, 0, none⟩ = some (.int .i64 v) ∧ w'.cell? ⟨wA.heap.size, 1, none⟩ = some (.slice da dn dc) ∧ w'.cell? ⟨pb, po + j, none⟩ = some (.slice kal' kn kc'))
              (first | (refine ⟨?_, ?_, ?_⟩ <;> assumption) | (go_keep; done))
              (first | (go_at_call 12; refine (HFO.out _ ?_).mono ?_; exact ⟨rfl, rfl, rfl, Nat.le_refl _, fun _ _ => rfl⟩; rintro e w5 ⟨rfl, ⟨y0, y1, y2⟩, HX⟩))
            go_wp2_with fail
            have HR5 : Hid (DRow W w2.heap.size (.slice da dn dc) D w5.drew) := Lib.hid (HST.out.2.2.2.2.1.call (bel_drewN HX.out 1))
            have HD5 : Hid (ResAt wA.heap.size v (.slice da dn dc) (w5.drew.alloc (.cells #[.slice kal' kn kc'] 25))) := Lib.hid (HST.out.2.2.2.1.call (bel_alloc (bel_drewN HX.out 1) _))
            have HB5 : Hid (Below wA.heap.size wA (w5.drew.alloc (.cells #[.slice kal' kn kc'] 25))) := Lib.hid (bel_call HST.out.2.2.2.2.2.1 (bel_alloc (bel_drewN HX.out 1) _))
            have HS5 : Hid (w2.heap.size ≤ w5.drew.heap.size) := Lib.hid (Nat.le_trans HST.out.2.2.2.2.2.2 HX.out.size)
            have HDN := Lib.hid HST.out.2.1
            clear d0 d1 df
            have yf := HD5.out.fr 1
            have y3 : (w5.alloc (.cells #[.slice kal' kn kc'] 25)).cell? ⟨wA.heap.size, 1, none⟩ = some (.slice da dn dc) := HD5.out.c1
            have y4 : (w5.alloc (.cells #[.slice kal' kn kc'] 25)).cell? ⟨wA.heap.size, 0, none⟩ = some (.int .i64 v) := HD5.out.c0
            go_region_law (refine step_one (w0 := w5.drew) (B := w2.heap.size) (kc := kc') rfl (.tmp 59) (.tmp 64) rfl (by simp [Act.eval]) HR5.out HS5.out HKI.out HKN.out rfl (by simp [Act.eval]) (by have := HDL.out; omega) ?_; intro xa xc w6 hd6 hg6; have HR6 := Lib.hid hd6; have HG6 := Lib.hid hg6; have HD6 := Lib.hid (HD5.out.grown hg6 (fun e => by have := HR5.out.blk e.symm; omega)); have z0 := HD6.out.c0; have z1 := HD6.out.c1; have zf := HD6.out.fr 1; clear hd6 hg6)
            all_goals
              have HB6 := Lib.hid ((bel_grown HB5.out HG6.out (fun q e => by have := HR5.out.blk e; omega)).setCell (p := ⟨wA.heap.size, 1, none⟩) (Nat.le_refl _) (.slice xa (D.length + 1) xc))
              have HD7 := Lib.hid (HD6.out.put (u := .slice xa (D.length + 1) xc))
              have HR7 := Lib.hid (HR6.out.setCell (p := ⟨wA.heap.size, 1, none⟩) (u := .slice xa (D.length + 1) xc) hlt2)
              have HS7 : Hid (w2.heap.size ≤ (w6.setCell ⟨wA.heap.size, 1, none⟩ (.slice xa (D.length + 1) xc)).heap.size) := by
                show _ ≤ _
                have h1 : (w5.drew.alloc (.cells #[.slice kal' kn kc'] 25)).heap.size ≤ w6.heap.size := HG6.out.size
                have h2 := HS5.out
                have h3 : (w5.drew.alloc (.cells #[.slice kal' kn kc'] 25)).heap.size = w5.drew.heap.size + 1 := by simp
                have h4 : (w6.setCell ⟨wA.heap.size, 1, none⟩ (.slice xa (D.length + 1) xc)).heap.size = w6.heap.size := by simp [World.setCell]
                omega
              go_wp2_with fail
              go_roundg (gk - 1)
            all_goals first
              | (have := HG2.out; have := HLT.out; omega; done)
              | exact ⟨j + 1, D ++ [k], D.length + 1, xc, xa, by first | rfl | (rw [HS.out.1]) | go_num, by have := HG2.out; have := HLT.out; omega, by
                  have h1 := HST.out.1
                  have h2 := HSZ.out
                  have h3 := HLT.out
                  have h4 := HPN.out
                  rw [h1, List.length_append, List.length_take]
                  omega, Lib.hid ⟨by rw [HST.out.1, List.take_add_one, HK.out, List.append_assoc]; rfl, by simp, by rw [HN.out, HST.out.1, List.take_add_one, HK.out, List.append_assoc]; rfl, HD7.out, HR7.out, HB6.out, HS7.out⟩⟩
        · have g3 : decide (((j : Nat) : Int) < ((pn : Nat) : Int)) = false := decide_eq_false (by omega)
          have g4 : ¬ ((j : Nat) : Int) < ((pn : Nat) : Int) := by omega
          have HR : Hid (runP v C P = some D) := Lib.hid (by have := HST.out.2.2.1; rw [List.take_of_length_le (by have := HPN.out; omega)] at this; exact this)
          have HU := Lib.hid (runits_of (c := dc) (gc := gc) HCD.out HST.out.2.1 HDL.out.2.2.1 (HGI.out.keep HBW.out) HGN.out HDL.out.2.2.2 (by have := HDL.out; have := HSZ.out; omega))
          clear hgk2 hlt2'
          cases hu : (unitsC v D g).2 with
          | true =>
            rw [hu] at HU
            have HE : Hid (checkP v C g P = 5) := Lib.hid (by unfold checkP; rw [HMAY.out, HARE.out, HPA.out, HR.out]; simp [hu])
            clear hu
            go_wp2_with fail
            refine HU.out.mono ?_
            rintro e w7 ⟨x, rfl, hb7⟩
            have HB7 := Lib.hid hb7
            clear hb7
            go_wp2_with fail
            go_ret
            exact ⟨by rw [HE.out]; rfl, bel_call HBW.out HB7.out⟩
          | false =>
            rw [hu] at HU
            have HE : Hid (checkP v C g P = 0) := Lib.hid (by unfold checkP; rw [HMAY.out, HARE.out, HPA.out, HR.out]; simp [hu])
            clear hu
            go_wp2_with fail
            refine HU.out.mono ?_
            rintro e w7 ⟨x, rfl, hb7⟩
            have HB7 := Lib.hid hb7
            clear hb7
            go_wp2_with fail
            go_ret
            exact ⟨by rw [HE.out]; rfl, bel_call HBW.out HB7.out⟩
theorem rcheck_any {W : World} {al gl pl : Option Addr} {C : Cl} {g : List Int} {P : Cl} {v : Int} {n c gn gc pn pc : Nat} (h : ClsAt W al C) (hn : n = C.length) (hok : OkC C) (hnc : al = none → c = 0) (hg : IntsAt W gl g) (hgn : gn = g.length) (hP : ClsAt W pl P) (hpn : pn = P.length) (hokP : OkC P)
    (hsz : C.flatten.length + P.flatten.length ≤ 300) (hcp : C.length + P.length ≤ 100) (hgb : gn ≤ 100) :
    Calls Try.prog 10 #[.agg #[.int .i64 v, .slice al n c], .slice gl gn gc, .slice pl pn pc] W fun e w => e = .returned (.int .i64 (checkP v C g P)) ∧ Below W.heap.size W w := by
  cases hm : mayC v C with
  | false => exact rcheck_may h hn hok hm
  | true =>
    cases ha : areL v g with
    | false => exact rcheck_are h hn hok hg hgn (by omega) hm ha
    | true => exact rcheck_go h hn hok hnc hg hgn hP hpn hokP hsz hcp hgb hm ha
end Rp
end Go.Proofs.Ytmgkgbhkaoflhaa
