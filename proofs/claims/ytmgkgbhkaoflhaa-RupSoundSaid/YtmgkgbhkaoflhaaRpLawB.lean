/-
  RupChecks, walked over Api.
-/
import Derived.Test.YtmgkgbhkaoflhaaRpLawA
namespace Go.Proofs.Ytmgkgbhkaoflhaa
open Go.RowKit
namespace Rp
open Cf
set_option maxHeartbeats 3200000
set_option maxRecDepth 100000

theorem chk_great (A : Api) {W : World} {al gl pl kl : Option Addr} {C : Cl} {g : List Int} {P : Cl} {T : List Int} {v : Int} {n c gn gc pn pc tn tc : Nat} (h : ClsAt W al C) (hn : n = C.length) (hok : OkC C) (hnc : al = none → c = 0) (hgi : IntsAt W gl g) (hgn : gn = g.length) (hgI : ∀ l ∈ g, I64 l) (hP : ClsAt W pl P) (hpn : pn = P.length) (hokP : OkC P) (hT : IntsAt W kl T) (htn : tn = T.length) (hTI : ∀ l ∈ T, I64 l) (hg : greatR C P = true) :
    Calls Try.prog 3 #[.agg #[.int .i64 v, .slice al n c], .slice gl gn gc, .slice pl pn pc, .slice kl tn tc] W fun e w => e = .returned (.bool true) ∧ Below W.heap.size W w := by
  have HA := Lib.hid A
  have HC := Lib.hid h
  have HN := Lib.hid hn
  have HOK := Lib.hid hok
  have HNC := Lib.hid hnc
  have HGI := Lib.hid hgi
  have HGN := Lib.hid hgn
  have HGI6 := Lib.hid hgI
  have HP := Lib.hid hP
  have HPN := Lib.hid hpn
  have HOKP := Lib.hid hokP
  have HT := Lib.hid hT
  have HTN := Lib.hid htn
  have HTI := Lib.hid hTI
  have HG := Lib.hid hg
  clear A h hn hok hnc hgi hgn hgI hP hpn hokP hT htn hTI hg
  go_enter Try.func3, Try.ntmps3
  go_wp2_with fail
  have c0 := new_cell W #[.int .i64 v, .slice al n c] 24 0
  have c1 := new_cell W #[.int .i64 v, .slice al n c] 24 1
  have hlt : W.heap.size < (W.alloc (.cells #[.int .i64 v, .slice al n c] 24)).heap.size := by simp
  have HBW := Lib.hid (bel_alloc (Below.refl W.heap.size W) (.cells #[.int .i64 v, .slice al n c] 24))
  generalize W.alloc (.cells #[.int .i64 v, .slice al n c] 24) = U at *
  have c0 : U.cell? ⟨W.heap.size, 0, none⟩ = some (.int .i64 v) := c0
  have c1 : U.cell? ⟨W.heap.size, 1, none⟩ = some (.slice al n c) := c1
  have HX0 := Lib.hid c0
  have HX1 := Lib.hid c1
  have HB0 := Lib.hid (Below.refl U.heap.size U)
  refine (great_bel (HC.out.keep (bel_call HBW.out HB0.out)) HN.out HOK.out (HP.out.keep (bel_call HBW.out HB0.out)) HPN.out HOKP.out).mono ?_
  rintro e w1 ⟨rfl, hb⟩
  rw [HG.out]
  have HB1 := Lib.hid (bel_call HB0.out hb)
  clear hb
  clear c0 c1
  have c0 := (HB1.out.cell (p := ⟨W.heap.size, 0, none⟩) hlt).trans HX0.out
  have c1 := (HB1.out.cell (p := ⟨W.heap.size, 1, none⟩) hlt).trans HX1.out
  go_wp2_with fail
  refine (lives_any HA.out _).mono ?_
  rintro e w9 ⟨rfl, hb⟩
  have HBL := Lib.hid (bel_call HB1.out hb)
  clear hb
  go_wp2_with fail
  go_ret
  exact ⟨rfl, bel_call HBW.out HBL.out⟩
theorem chk_long (A : Api) {W : World} {al gl pl kl : Option Addr} {C : Cl} {g : List Int} {P : Cl} {T : List Int} {v : Int} {n c gn gc pn pc tn tc : Nat} (h : ClsAt W al C) (hn : n = C.length) (hok : OkC C) (hnc : al = none → c = 0) (hgi : IntsAt W gl g) (hgn : gn = g.length) (hgI : ∀ l ∈ g, I64 l) (hP : ClsAt W pl P) (hpn : pn = P.length) (hokP : OkC P) (hT : IntsAt W kl T) (htn : tn = T.length) (hTI : ∀ l ∈ T, I64 l) (hg : greatR C P = false) (hl : 30 < gn) :
    Calls Try.prog 3 #[.agg #[.int .i64 v, .slice al n c], .slice gl gn gc, .slice pl pn pc, .slice kl tn tc] W fun e w => e = .returned (.bool true) ∧ Below W.heap.size W w := by
  have HA := Lib.hid A
  have HC := Lib.hid h
  have HN := Lib.hid hn
  have HOK := Lib.hid hok
  have HNC := Lib.hid hnc
  have HGI := Lib.hid hgi
  have HGN := Lib.hid hgn
  have HGI6 := Lib.hid hgI
  have HP := Lib.hid hP
  have HPN := Lib.hid hpn
  have HOKP := Lib.hid hokP
  have HT := Lib.hid hT
  have HTN := Lib.hid htn
  have HTI := Lib.hid hTI
  have HG := Lib.hid hg
  have g1 : decide (30 < ((gn : Nat) : Int)) = true := decide_eq_true (by omega)
  have g2 : 30 < ((gn : Nat) : Int) := by omega
  clear A h hn hok hnc hgi hgn hgI hP hpn hokP hT htn hTI hg hl
  go_enter Try.func3, Try.ntmps3
  go_wp2_with fail
  have c0 := new_cell W #[.int .i64 v, .slice al n c] 24 0
  have c1 := new_cell W #[.int .i64 v, .slice al n c] 24 1
  have hlt : W.heap.size < (W.alloc (.cells #[.int .i64 v, .slice al n c] 24)).heap.size := by simp
  have HBW := Lib.hid (bel_alloc (Below.refl W.heap.size W) (.cells #[.int .i64 v, .slice al n c] 24))
  generalize W.alloc (.cells #[.int .i64 v, .slice al n c] 24) = U at *
  have c0 : U.cell? ⟨W.heap.size, 0, none⟩ = some (.int .i64 v) := c0
  have c1 : U.cell? ⟨W.heap.size, 1, none⟩ = some (.slice al n c) := c1
  have HX0 := Lib.hid c0
  have HX1 := Lib.hid c1
  have HB0 := Lib.hid (Below.refl U.heap.size U)
  refine (great_bel (HC.out.keep (bel_call HBW.out HB0.out)) HN.out HOK.out (HP.out.keep (bel_call HBW.out HB0.out)) HPN.out HOKP.out).mono ?_
  rintro e w1 ⟨rfl, hb⟩
  rw [HG.out]
  have HB1 := Lib.hid (bel_call HB0.out hb)
  clear hb
  clear c0 c1
  have c0 := (HB1.out.cell (p := ⟨W.heap.size, 0, none⟩) hlt).trans HX0.out
  have c1 := (HB1.out.cell (p := ⟨W.heap.size, 1, none⟩) hlt).trans HX1.out
  go_wp2_with fail
  refine (lives_any HA.out _).mono ?_
  rintro e w9 ⟨rfl, hb⟩
  have HBL := Lib.hid (bel_call HB1.out hb)
  clear hb
  go_wp2_with fail
  go_ret
  exact ⟨rfl, bel_call HBW.out HBL.out⟩
theorem chk_wide (A : Api) {W : World} {al gl pl kl : Option Addr} {C : Cl} {g : List Int} {P : Cl} {T : List Int} {v : Int} {n c gn gc pn pc tn tc : Nat} (h : ClsAt W al C) (hn : n = C.length) (hok : OkC C) (hnc : al = none → c = 0) (hgi : IntsAt W gl g) (hgn : gn = g.length) (hgI : ∀ l ∈ g, I64 l) (hP : ClsAt W pl P) (hpn : pn = P.length) (hokP : OkC P) (hT : IntsAt W kl T) (htn : tn = T.length) (hTI : ∀ l ∈ T, I64 l) (hg : greatR C P = false) (hl : gn ≤ 30) (hl2 : 30 < tn) :
    Calls Try.prog 3 #[.agg #[.int .i64 v, .slice al n c], .slice gl gn gc, .slice pl pn pc, .slice kl tn tc] W fun e w => e = .returned (.bool true) ∧ Below W.heap.size W w := by
  have HA := Lib.hid A
  have HC := Lib.hid h
  have HN := Lib.hid hn
  have HOK := Lib.hid hok
  have HNC := Lib.hid hnc
  have HGI := Lib.hid hgi
  have HGN := Lib.hid hgn
  have HGI6 := Lib.hid hgI
  have HP := Lib.hid hP
  have HPN := Lib.hid hpn
  have HOKP := Lib.hid hokP
  have HT := Lib.hid hT
  have HTN := Lib.hid htn
  have HTI := Lib.hid hTI
  have HG := Lib.hid hg
  have g1 : decide (30 < ((gn : Nat) : Int)) = false := decide_eq_false (by omega)
  have g2 : ¬ 30 < ((gn : Nat) : Int) := by omega
  have g3 : decide (30 < ((tn : Nat) : Int)) = true := decide_eq_true (by omega)
  have g4 : 30 < ((tn : Nat) : Int) := by omega
  clear A h hn hok hnc hgi hgn hgI hP hpn hokP hT htn hTI hg hl hl2
  go_enter Try.func3, Try.ntmps3
  go_wp2_with fail
  have c0 := new_cell W #[.int .i64 v, .slice al n c] 24 0
  have c1 := new_cell W #[.int .i64 v, .slice al n c] 24 1
  have hlt : W.heap.size < (W.alloc (.cells #[.int .i64 v, .slice al n c] 24)).heap.size := by simp
  have HBW := Lib.hid (bel_alloc (Below.refl W.heap.size W) (.cells #[.int .i64 v, .slice al n c] 24))
  generalize W.alloc (.cells #[.int .i64 v, .slice al n c] 24) = U at *
  have c0 : U.cell? ⟨W.heap.size, 0, none⟩ = some (.int .i64 v) := c0
  have c1 : U.cell? ⟨W.heap.size, 1, none⟩ = some (.slice al n c) := c1
  have HX0 := Lib.hid c0
  have HX1 := Lib.hid c1
  have HB0 := Lib.hid (Below.refl U.heap.size U)
  refine (great_bel (HC.out.keep (bel_call HBW.out HB0.out)) HN.out HOK.out (HP.out.keep (bel_call HBW.out HB0.out)) HPN.out HOKP.out).mono ?_
  rintro e w1 ⟨rfl, hb⟩
  rw [HG.out]
  have HB1 := Lib.hid (bel_call HB0.out hb)
  clear hb
  clear c0 c1
  have c0 := (HB1.out.cell (p := ⟨W.heap.size, 0, none⟩) hlt).trans HX0.out
  have c1 := (HB1.out.cell (p := ⟨W.heap.size, 1, none⟩) hlt).trans HX1.out
  go_wp2_with fail
  refine (lives_any HA.out _).mono ?_
  rintro e w9 ⟨rfl, hb⟩
  have HBL := Lib.hid (bel_call HB1.out hb)
  clear hb
  go_wp2_with fail
  go_ret
  exact ⟨rfl, bel_call HBW.out HBL.out⟩
theorem chk_go (A : Api) {W : World} {al gl pl kl : Option Addr} {C : Cl} {g : List Int} {P : Cl} {T : List Int} {v : Int} {n c gn gc pn pc tn tc : Nat} (h : ClsAt W al C) (hn : n = C.length) (hok : OkC C) (hnc : al = none → c = 0) (hgi : IntsAt W gl g) (hgn : gn = g.length) (hgI : ∀ l ∈ g, I64 l) (hP : ClsAt W pl P) (hpn : pn = P.length) (hokP : OkC P) (hT : IntsAt W kl T) (htn : tn = T.length) (hTI : ∀ l ∈ T, I64 l) (hg : greatR C P = false) (hl : gn ≤ 30) (hl2 : tn ≤ 30) :
    Calls Try.prog 3 #[.agg #[.int .i64 v, .slice al n c], .slice gl gn gc, .slice pl pn pc, .slice kl tn tc] W fun e w => e = .returned (.bool true) ∧ Below W.heap.size W w := by
  have HA := Lib.hid A
  have HC := Lib.hid h
  have HN := Lib.hid hn
  have HOK := Lib.hid hok
  have HNC := Lib.hid hnc
  have HGI := Lib.hid hgi
  have HGN := Lib.hid hgn
  have HGI6 := Lib.hid hgI
  have HP := Lib.hid hP
  have HPN := Lib.hid hpn
  have HOKP := Lib.hid hokP
  have HT := Lib.hid hT
  have HTN := Lib.hid htn
  have HTI := Lib.hid hTI
  have HG := Lib.hid hg
  have g1 : decide (30 < ((gn : Nat) : Int)) = false := decide_eq_false (by omega)
  have g2 : ¬ 30 < ((gn : Nat) : Int) := by omega
  have g3 : decide (30 < ((tn : Nat) : Int)) = false := decide_eq_false (by omega)
  have g4 : ¬ 30 < ((tn : Nat) : Int) := by omega
  have HSZ : Hid (C.flatten.length + P.flatten.length ≤ 300 ∧ C.length + P.length ≤ 100 ∧ gn ≤ 30 ∧ tn ≤ 30) := Lib.hid (by have := greatR_no hg; omega)
  clear A h hn hok hnc hgi hgn hgI hP hpn hokP hT htn hTI hg hl hl2
  go_enter Try.func3, Try.ntmps3
  go_wp2_with fail
  have c0 := new_cell W #[.int .i64 v, .slice al n c] 24 0
  have c1 := new_cell W #[.int .i64 v, .slice al n c] 24 1
  have hlt : W.heap.size < (W.alloc (.cells #[.int .i64 v, .slice al n c] 24)).heap.size := by simp
  have HBW := Lib.hid (bel_alloc (Below.refl W.heap.size W) (.cells #[.int .i64 v, .slice al n c] 24))
  generalize W.alloc (.cells #[.int .i64 v, .slice al n c] 24) = U at *
  have c0 : U.cell? ⟨W.heap.size, 0, none⟩ = some (.int .i64 v) := c0
  have c1 : U.cell? ⟨W.heap.size, 1, none⟩ = some (.slice al n c) := c1
  have HX0 := Lib.hid c0
  have HX1 := Lib.hid c1
  have HB0 := Lib.hid (Below.refl U.heap.size U)
  have HK1 : Hid (∀ w', Below U.heap.size U w' → Calls Try.prog 9 #[.agg #[.int .i64 v, .slice al n c], .slice gl gn gc, .slice pl pn pc] w' fun e w => e = .returned (.int .i64 (checkP v C g P)) ∧ (w.cell? ⟨W.heap.size, 0, none⟩ = some (.int .i64 v) ∧ w.cell? ⟨W.heap.size, 1, none⟩ = some (.slice al n c)) ∧ Hid (Below U.heap.size U w)) := Lib.hid (fun w' hb => by
    refine (HA.out.check _ _ _ _ C g P v n c gn gc pn pc (HC.out.keep (bel_call HBW.out hb)) HN.out HOK.out HNC.out (HGI.out.keep (bel_call HBW.out hb)) HGN.out HGI6.out (HP.out.keep (bel_call HBW.out hb)) HPN.out HOKP.out (by have := HSZ.out; omega) (by have := HSZ.out; omega) (by have := HSZ.out; omega)).mono ?_
    rintro e w ⟨rfl, hb2⟩
    have hbb := bel_call hb hb2
    exact ⟨rfl, ⟨(hbb.cell (p := ⟨W.heap.size, 0, none⟩) hlt).trans HX0.out, (hbb.cell (p := ⟨W.heap.size, 1, none⟩) hlt).trans HX1.out⟩, Lib.hid hbb⟩)
  have HK2 : Hid (∀ w', Below U.heap.size U w' → Calls Try.prog 10 #[.agg #[.int .i64 v, .slice al n c], .slice gl gn gc, .slice pl pn pc] w' fun e w => e = .returned (.int .i64 (checkP v C g P)) ∧ (w.cell? ⟨W.heap.size, 0, none⟩ = some (.int .i64 v) ∧ w.cell? ⟨W.heap.size, 1, none⟩ = some (.slice al n c)) ∧ Hid (Below U.heap.size U w)) := Lib.hid (fun w' hb => by
    refine (rcheck_any (HC.out.keep (bel_call HBW.out hb)) HN.out HOK.out HNC.out (HGI.out.keep (bel_call HBW.out hb)) HGN.out (HP.out.keep (bel_call HBW.out hb)) HPN.out HOKP.out (by have := HSZ.out; omega) (by have := HSZ.out; omega) (by have := HSZ.out; omega)).mono ?_
    rintro e w ⟨rfl, hb2⟩
    have hbb := bel_call hb hb2
    exact ⟨rfl, ⟨(hbb.cell (p := ⟨W.heap.size, 0, none⟩) hlt).trans HX0.out, (hbb.cell (p := ⟨W.heap.size, 1, none⟩) hlt).trans HX1.out⟩, Lib.hid hbb⟩)
  have HK3 : Hid (∀ w', Below U.heap.size U w' → Calls Try.prog 11 #[.agg #[.int .i64 v, .slice al n c], .slice kl tn tc] w' fun e w => e = .returned (.bool (followsP v C T)) ∧ (w.cell? ⟨W.heap.size, 0, none⟩ = some (.int .i64 v) ∧ w.cell? ⟨W.heap.size, 1, none⟩ = some (.slice al n c)) ∧ Hid (Below U.heap.size U w)) := Lib.hid (fun w' hb => by
    refine (HA.out.follows _ _ _ C T v n c tn tc (HC.out.keep (bel_call HBW.out hb)) HN.out HOK.out HNC.out (HT.out.keep (bel_call HBW.out hb)) HTN.out HTI.out (by have := HSZ.out; omega) (by have := HSZ.out; have := HN.out; omega) (by have := HSZ.out; omega)).mono ?_
    rintro e w ⟨rfl, hb2⟩
    have hbb := bel_call hb hb2
    exact ⟨rfl, ⟨(hbb.cell (p := ⟨W.heap.size, 0, none⟩) hlt).trans HX0.out, (hbb.cell (p := ⟨W.heap.size, 1, none⟩) hlt).trans HX1.out⟩, Lib.hid hbb⟩)
  have HK4 : Hid (∀ w', Below U.heap.size U w' → Calls Try.prog 12 #[.agg #[.int .i64 v, .slice al n c], .slice kl tn tc] w' fun e w => e = .returned (.bool (followsP v C T)) ∧ (w.cell? ⟨W.heap.size, 0, none⟩ = some (.int .i64 v) ∧ w.cell? ⟨W.heap.size, 1, none⟩ = some (.slice al n c)) ∧ Hid (Below U.heap.size U w)) := Lib.hid (fun w' hb => by
    refine (rfollows_any (HC.out.keep (bel_call HBW.out hb)) HN.out HOK.out (HT.out.keep (bel_call HBW.out hb)) HTN.out (by have := HSZ.out; omega)).mono ?_
    rintro e w ⟨rfl, hb2⟩
    have hbb := bel_call hb hb2
    exact ⟨rfl, ⟨(hbb.cell (p := ⟨W.heap.size, 0, none⟩) hlt).trans HX0.out, (hbb.cell (p := ⟨W.heap.size, 1, none⟩) hlt).trans HX1.out⟩, Lib.hid hbb⟩)
  have HK5 : Hid (∀ w', Below U.heap.size U w' → Calls Try.prog 8 #[] w' fun e w => e = .returned (.bool true) ∧ (w.cell? ⟨W.heap.size, 0, none⟩ = some (.int .i64 v) ∧ w.cell? ⟨W.heap.size, 1, none⟩ = some (.slice al n c)) ∧ Hid (Below U.heap.size U w)) := Lib.hid (fun w' hb => by
    refine (lives_any HA.out _).mono ?_
    rintro e w ⟨rfl, hb2⟩
    have hbb := bel_call hb hb2
    exact ⟨rfl, ⟨(hbb.cell (p := ⟨W.heap.size, 0, none⟩) hlt).trans HX0.out, (hbb.cell (p := ⟨W.heap.size, 1, none⟩) hlt).trans HX1.out⟩, Lib.hid hbb⟩)
  refine (great_bel (HC.out.keep (bel_call HBW.out HB0.out)) HN.out HOK.out (HP.out.keep (bel_call HBW.out HB0.out)) HPN.out HOKP.out).mono ?_
  rintro e w1 ⟨rfl, hb⟩
  rw [HG.out]
  have HB1 := Lib.hid (bel_call HB0.out hb)
  clear hb
  clear c0 c1
  have c0 := (HB1.out.cell (p := ⟨W.heap.size, 0, none⟩) hlt).trans HX0.out
  have c1 := (HB1.out.cell (p := ⟨W.heap.size, 1, none⟩) hlt).trans HX1.out
  go_wp2_with fail
  generalize checkP v C g P = ck at HK1 HK2
  generalize followsP v C T = fo at HK3 HK4
  go_region_held3 (fun w' => w'.cell? ⟨W.heap.size, 0, none⟩ = some (.int .i64 v) ∧ w'.cell? ⟨W.heap.size, 1, none⟩ = some (.slice al n c))
    (first | (refine ⟨?_, ?_⟩ <;> assumption) | (go_keep; done))
    (first | (go_at_call 9; refine (HK1.out _ ?_).mono ?_; exact bel_drewN HB1.out 1; rintro e y1 ⟨rfl, ⟨p1, q1⟩, HY1⟩) | (go_at_call 10; refine (HK2.out _ ?_).mono ?_; exact HY1.out; rintro e y2 ⟨rfl, ⟨p2, q2⟩, HY2⟩) | (go_at_call 11; refine (HK3.out _ ?_).mono ?_; exact HY2.out; rintro e y3 ⟨rfl, ⟨p3, q3⟩, HY3⟩) | (go_at_call 12; refine (HK4.out _ ?_).mono ?_; exact HY3.out; rintro e y4 ⟨rfl, ⟨p4, q4⟩, HY4⟩) | (go_at_call 8; refine (HK5.out _ ?_).mono ?_; exact HY4.out; rintro e y5 ⟨rfl, ⟨p5, q5⟩, HY5⟩))
  all_goals go_wp2_with fail
  all_goals go_ret
  all_goals exact ⟨rfl, bel_call HBW.out HY5.out⟩
theorem rupChecks_any (A : Api) {W : World} {al gl pl kl : Option Addr} {C : Cl} {g : List Int} {P : Cl} {T : List Int} {v : Int} {n c gn gc pn pc tn tc : Nat} (h : ClsAt W al C) (hn : n = C.length) (hok : OkC C) (hnc : al = none → c = 0) (hgi : IntsAt W gl g) (hgn : gn = g.length) (hgI : ∀ l ∈ g, I64 l) (hP : ClsAt W pl P) (hpn : pn = P.length) (hokP : OkC P) (hT : IntsAt W kl T) (htn : tn = T.length) (hTI : ∀ l ∈ T, I64 l) :
    Calls Try.prog 3 #[.agg #[.int .i64 v, .slice al n c], .slice gl gn gc, .slice pl pn pc, .slice kl tn tc] W fun e w => e = .returned (.bool true) ∧ Below W.heap.size W w := by
  cases hg : greatR C P with
  | true => exact chk_great A h hn hok hnc hgi hgn hgI hP hpn hokP hT htn hTI hg
  | false =>
    by_cases h1 : 30 < gn
    · exact chk_long A h hn hok hnc hgi hgn hgI hP hpn hokP hT htn hTI hg h1
    · by_cases h2 : 30 < tn
      · exact chk_wide A h hn hok hnc hgi hgn hgI hP hpn hokP hT htn hTI hg (by omega) h2
      · exact chk_go A h hn hok hnc hgi hgn hgI hP hpn hokP hT htn hTI hg (by omega) (by omega)
end Rp
end Go.Proofs.Ytmgkgbhkaoflhaa
