/-
  RupFollows, walked over Api.
-/
import Derived.Test.YtmgkgbhkaoflhaaRpApi
namespace Go.Proofs.Ytmgkgbhkaoflhaa
open Go.RowKit
namespace Rp
open Cf
set_option maxHeartbeats 3200000
set_option maxRecDepth 100000

theorem great_bel {W : World} {al ll : Option Addr} {C L : Cl} {v : Int} {n c ln lc : Nat} (h : ClsAt W al C) (hn : n = C.length) (hok : OkC C) (hL : ClsAt W ll L) (hln : ln = L.length) (hokL : OkC L) :
    Calls Try.prog 7 #[.agg #[.int .i64 v, .slice al n c], .slice ll ln lc] W fun e w => e = .returned (.bool (greatR C L)) ∧ Below W.heap.size W w := by
  refine (great_any h hn hok hL hln hokL).mono ?_
  rintro e w ⟨rfl, rfl⟩
  exact ⟨rfl, bel_alloc (Below.refl _ _) _⟩
theorem holds_bel {W : World} {al ml : Option Addr} {C : Cl} {m : List Bool} {v : Int} {n c len mc : Nat} (h : ClsAt W al C) (hn : n = C.length) (hok : OkC C) (hm : BoolsAt W ml m) (hlen : len = m.length) (hb : len ≤ 1000000) :
    Calls Try.prog 13 #[.agg #[.int .i64 v, .slice al n c], .slice ml len mc] W fun e w => e = .returned (.bool (holdsC m C)) ∧ Below W.heap.size W w := by
  refine (rholds_any h hn hok hm hlen hb).mono ?_
  rintro e w ⟨rfl, rfl⟩
  exact ⟨rfl, bel_alloc (Below.refl _ _) _⟩
theorem okC_one {k : List Int} (h : k.length < 4611686018427387904) (hI : ∀ l ∈ k, I64 l) : OkC [k] := ⟨by simp, fun x hx => by simp at hx; subst hx; exact h, fun x hx => by simp at hx; subst hx; exact hI⟩
theorem fol_great (A : Api) {W : World} {al kl ml : Option Addr} {C : Cl} {T : List Int} {m : List Bool} {v : Int} {n c tn tc mn mc : Nat} (h : ClsAt W al C) (hn : n = C.length) (hok : OkC C) (hnc : al = none → c = 0) (hT : IntsAt W kl T) (htn : tn = T.length) (hTI : ∀ l ∈ T, I64 l) (hm : BoolsAt W ml m) (hmn : mn = m.length) (hg : greatR C [] = true) :
    Calls Try.prog 5 #[.agg #[.int .i64 v, .slice al n c], .slice kl tn tc, .slice ml mn mc] W fun e w => e = .returned (.bool true) ∧ Below W.heap.size W w := by
  have HA := Lib.hid A
  have HC := Lib.hid h
  have HN := Lib.hid hn
  have HOK := Lib.hid hok
  have HNC := Lib.hid hnc
  have HT := Lib.hid hT
  have HTN := Lib.hid htn
  have HTI := Lib.hid hTI
  have HM := Lib.hid hm
  have HMN := Lib.hid hmn
  have HG := Lib.hid hg
  clear A h hn hok hnc hT htn hTI hm hmn hg
  go_enter Try.func5, Try.ntmps5
  go_wp2_with fail
  have c0 := new_cell W #[.int .i64 v, .slice al n c] 24 0
  have c1 := new_cell W #[.int .i64 v, .slice al n c] 24 1
  have hlt : W.heap.size < (W.alloc (.cells #[.int .i64 v, .slice al n c] 24)).heap.size := by simp
  have HBW := Lib.hid (bel_alloc (Below.refl W.heap.size W) (.cells #[.int .i64 v, .slice al n c] 24))
  generalize W.alloc (.cells #[.int .i64 v, .slice al n c] 24) = U at *
  have c0 : U.cell? ⟨W.heap.size, 0, none⟩ = some (.int .i64 v) := c0
  have c1 : U.cell? ⟨W.heap.size, 1, none⟩ = some (.slice al n c) := c1
  have HX0 := Lib.hid c0
  have HX1 := Lib.hid c1
  have HB0 := Lib.hid (Below.refl U.heap.size U)
  refine (great_bel (HC.out.keep (bel_call HBW.out HB0.out)) HN.out HOK.out (L := []) (.inl rfl) rfl ok_nil).mono ?_
  rintro e w1 ⟨rfl, hb⟩
  rw [HG.out]
  have HB1 := Lib.hid (bel_call HB0.out hb)
  clear hb
  clear c0 c1
  have c0 := (HB1.out.cell (p := ⟨W.heap.size, 0, none⟩) hlt).trans HX0.out
  have c1 := (HB1.out.cell (p := ⟨W.heap.size, 1, none⟩) hlt).trans HX1.out
  go_wp2_with fail
  refine (lives_any HA.out _).mono ?_
  rintro e w9 ⟨rfl, hb⟩
  have HBL := Lib.hid (bel_call HB1.out hb)
  clear hb
  go_wp2_with fail
  go_ret
  exact ⟨rfl, bel_call HBW.out HBL.out⟩
theorem fol_long (A : Api) {W : World} {al kl ml : Option Addr} {C : Cl} {T : List Int} {m : List Bool} {v : Int} {n c tn tc mn mc : Nat} (h : ClsAt W al C) (hn : n = C.length) (hok : OkC C) (hnc : al = none → c = 0) (hT : IntsAt W kl T) (htn : tn = T.length) (hTI : ∀ l ∈ T, I64 l) (hm : BoolsAt W ml m) (hmn : mn = m.length) (hg : greatR C [] = false) (hl : 30 < tn) :
    Calls Try.prog 5 #[.agg #[.int .i64 v, .slice al n c], .slice kl tn tc, .slice ml mn mc] W fun e w => e = .returned (.bool true) ∧ Below W.heap.size W w := by
  have HA := Lib.hid A
  have HC := Lib.hid h
  have HN := Lib.hid hn
  have HOK := Lib.hid hok
  have HNC := Lib.hid hnc
  have HT := Lib.hid hT
  have HTN := Lib.hid htn
  have HTI := Lib.hid hTI
  have HM := Lib.hid hm
  have HMN := Lib.hid hmn
  have HG := Lib.hid hg
  have g1 : decide (30 < ((tn : Nat) : Int)) = true := decide_eq_true (by omega)
  have g2 : 30 < ((tn : Nat) : Int) := by omega
  clear A h hn hok hnc hT htn hTI hm hmn hg hl
  go_enter Try.func5, Try.ntmps5
  go_wp2_with fail
  have c0 := new_cell W #[.int .i64 v, .slice al n c] 24 0
  have c1 := new_cell W #[.int .i64 v, .slice al n c] 24 1
  have hlt : W.heap.size < (W.alloc (.cells #[.int .i64 v, .slice al n c] 24)).heap.size := by simp
  have HBW := Lib.hid (bel_alloc (Below.refl W.heap.size W) (.cells #[.int .i64 v, .slice al n c] 24))
  generalize W.alloc (.cells #[.int .i64 v, .slice al n c] 24) = U at *
  have c0 : U.cell? ⟨W.heap.size, 0, none⟩ = some (.int .i64 v) := c0
  have c1 : U.cell? ⟨W.heap.size, 1, none⟩ = some (.slice al n c) := c1
  have HX0 := Lib.hid c0
  have HX1 := Lib.hid c1
  have HB0 := Lib.hid (Below.refl U.heap.size U)
  refine (great_bel (HC.out.keep (bel_call HBW.out HB0.out)) HN.out HOK.out (L := []) (.inl rfl) rfl ok_nil).mono ?_
  rintro e w1 ⟨rfl, hb⟩
  rw [HG.out]
  have HB1 := Lib.hid (bel_call HB0.out hb)
  clear hb
  clear c0 c1
  have c0 := (HB1.out.cell (p := ⟨W.heap.size, 0, none⟩) hlt).trans HX0.out
  have c1 := (HB1.out.cell (p := ⟨W.heap.size, 1, none⟩) hlt).trans HX1.out
  go_wp2_with fail
  refine (lives_any HA.out _).mono ?_
  rintro e w9 ⟨rfl, hb⟩
  have HBL := Lib.hid (bel_call HB1.out hb)
  clear hb
  go_wp2_with fail
  go_ret
  exact ⟨rfl, bel_call HBW.out HBL.out⟩
theorem fol_wide (A : Api) {W : World} {al kl ml : Option Addr} {C : Cl} {T : List Int} {m : List Bool} {v : Int} {n c tn tc mn mc : Nat} (h : ClsAt W al C) (hn : n = C.length) (hok : OkC C) (hnc : al = none → c = 0) (hT : IntsAt W kl T) (htn : tn = T.length) (hTI : ∀ l ∈ T, I64 l) (hm : BoolsAt W ml m) (hmn : mn = m.length) (hg : greatR C [] = false) (hl : tn ≤ 30) (hl2 : 100 < mn) :
    Calls Try.prog 5 #[.agg #[.int .i64 v, .slice al n c], .slice kl tn tc, .slice ml mn mc] W fun e w => e = .returned (.bool true) ∧ Below W.heap.size W w := by
  have HA := Lib.hid A
  have HC := Lib.hid h
  have HN := Lib.hid hn
  have HOK := Lib.hid hok
  have HNC := Lib.hid hnc
  have HT := Lib.hid hT
  have HTN := Lib.hid htn
  have HTI := Lib.hid hTI
  have HM := Lib.hid hm
  have HMN := Lib.hid hmn
  have HG := Lib.hid hg
  have g1 : decide (30 < ((tn : Nat) : Int)) = false := decide_eq_false (by omega)
  have g2 : ¬ 30 < ((tn : Nat) : Int) := by omega
  have g3 : decide (100 < ((mn : Nat) : Int)) = true := decide_eq_true (by omega)
  have g4 : 100 < ((mn : Nat) : Int) := by omega
  clear A h hn hok hnc hT htn hTI hm hmn hg hl hl2
  go_enter Try.func5, Try.ntmps5
  go_wp2_with fail
  have c0 := new_cell W #[.int .i64 v, .slice al n c] 24 0
  have c1 := new_cell W #[.int .i64 v, .slice al n c] 24 1
  have hlt : W.heap.size < (W.alloc (.cells #[.int .i64 v, .slice al n c] 24)).heap.size := by simp
  have HBW := Lib.hid (bel_alloc (Below.refl W.heap.size W) (.cells #[.int .i64 v, .slice al n c] 24))
  generalize W.alloc (.cells #[.int .i64 v, .slice al n c] 24) = U at *
  have c0 : U.cell? ⟨W.heap.size, 0, none⟩ = some (.int .i64 v) := c0
  have c1 : U.cell? ⟨W.heap.size, 1, none⟩ = some (.slice al n c) := c1
  have HX0 := Lib.hid c0
  have HX1 := Lib.hid c1
  have HB0 := Lib.hid (Below.refl U.heap.size U)
  refine (great_bel (HC.out.keep (bel_call HBW.out HB0.out)) HN.out HOK.out (L := []) (.inl rfl) rfl ok_nil).mono ?_
  rintro e w1 ⟨rfl, hb⟩
  rw [HG.out]
  have HB1 := Lib.hid (bel_call HB0.out hb)
  clear hb
  clear c0 c1
  have c0 := (HB1.out.cell (p := ⟨W.heap.size, 0, none⟩) hlt).trans HX0.out
  have c1 := (HB1.out.cell (p := ⟨W.heap.size, 1, none⟩) hlt).trans HX1.out
  go_wp2_with fail
  refine (lives_any HA.out _).mono ?_
  rintro e w9 ⟨rfl, hb⟩
  have HBL := Lib.hid (bel_call HB1.out hb)
  clear hb
  go_wp2_with fail
  go_ret
  exact ⟨rfl, bel_call HBW.out HBL.out⟩
theorem fol_not (A : Api) {W : World} {al kl ml : Option Addr} {C : Cl} {T : List Int} {m : List Bool} {v : Int} {n c tn tc mn mc : Nat} (h : ClsAt W al C) (hn : n = C.length) (hok : OkC C) (hnc : al = none → c = 0) (hT : IntsAt W kl T) (htn : tn = T.length) (hTI : ∀ l ∈ T, I64 l) (hm : BoolsAt W ml m) (hmn : mn = m.length) (hg : greatR C [] = false) (hl : tn ≤ 30) (hl2 : mn ≤ 100) (hf : followsP v C T = false) :
    Calls Try.prog 5 #[.agg #[.int .i64 v, .slice al n c], .slice kl tn tc, .slice ml mn mc] W fun e w => e = .returned (.bool true) ∧ Below W.heap.size W w := by
  have HA := Lib.hid A
  have HC := Lib.hid h
  have HN := Lib.hid hn
  have HOK := Lib.hid hok
  have HNC := Lib.hid hnc
  have HT := Lib.hid hT
  have HTN := Lib.hid htn
  have HTI := Lib.hid hTI
  have HM := Lib.hid hm
  have HMN := Lib.hid hmn
  have HG := Lib.hid hg
  have HG1 : Hid (C.flatten.length ≤ 1000) := Lib.hid (by have := greatR_no hg; omega)
  have HG2 : Hid (n ≤ 1000) := Lib.hid (by have := greatR_no hg; omega)
  have g1 : decide (30 < ((tn : Nat) : Int)) = false := decide_eq_false (by omega)
  have g2 : ¬ 30 < ((tn : Nat) : Int) := by omega
  have g3 : decide (100 < ((mn : Nat) : Int)) = false := decide_eq_false (by omega)
  have g4 : ¬ 100 < ((mn : Nat) : Int) := by omega
  have HL1 : Hid (tn ≤ 100) := Lib.hid (by omega)
  have HL2 : Hid (mn ≤ 1000000) := Lib.hid (by omega)
  have HF := Lib.hid hf
  clear A h hn hok hnc hT htn hTI hm hmn hg hl hl2 hf
  go_enter Try.func5, Try.ntmps5
  go_wp2_with fail
  have c0 := new_cell W #[.int .i64 v, .slice al n c] 24 0
  have c1 := new_cell W #[.int .i64 v, .slice al n c] 24 1
  have hlt : W.heap.size < (W.alloc (.cells #[.int .i64 v, .slice al n c] 24)).heap.size := by simp
  have HBW := Lib.hid (bel_alloc (Below.refl W.heap.size W) (.cells #[.int .i64 v, .slice al n c] 24))
  generalize W.alloc (.cells #[.int .i64 v, .slice al n c] 24) = U at *
  have c0 : U.cell? ⟨W.heap.size, 0, none⟩ = some (.int .i64 v) := c0
  have c1 : U.cell? ⟨W.heap.size, 1, none⟩ = some (.slice al n c) := c1
  have HX0 := Lib.hid c0
  have HX1 := Lib.hid c1
  have HB0 := Lib.hid (Below.refl U.heap.size U)
  refine (great_bel (HC.out.keep (bel_call HBW.out HB0.out)) HN.out HOK.out (L := []) (.inl rfl) rfl ok_nil).mono ?_
  rintro e w1 ⟨rfl, hb⟩
  rw [HG.out]
  have HB1 := Lib.hid (bel_call HB0.out hb)
  clear hb
  clear c0 c1
  have c0 := (HB1.out.cell (p := ⟨W.heap.size, 0, none⟩) hlt).trans HX0.out
  have c1 := (HB1.out.cell (p := ⟨W.heap.size, 1, none⟩) hlt).trans HX1.out
  go_wp2_with fail
  refine (HA.out.follows _ _ _ C T _ n c tn tc (HC.out.keep (bel_call HBW.out HB1.out)) HN.out HOK.out HNC.out (HT.out.keep (bel_call HBW.out HB1.out)) HTN.out HTI.out HG1.out HG2.out HL1.out).mono ?_
  rintro e w2 ⟨rfl, hb⟩
  rw [HF.out]
  have HB2 := Lib.hid (bel_call HB1.out hb)
  clear hb
  clear c0 c1
  have c0 := (HB2.out.cell (p := ⟨W.heap.size, 0, none⟩) hlt).trans HX0.out
  have c1 := (HB2.out.cell (p := ⟨W.heap.size, 1, none⟩) hlt).trans HX1.out
  go_wp2_with fail
  refine (lives_any HA.out _).mono ?_
  rintro e w9 ⟨rfl, hb⟩
  have HBL := Lib.hid (bel_call HB2.out hb)
  clear hb
  go_wp2_with fail
  go_ret
  exact ⟨rfl, bel_call HBW.out HBL.out⟩
theorem fol_none (A : Api) {W : World} {al kl ml : Option Addr} {C : Cl} {T : List Int} {m : List Bool} {v : Int} {n c tn tc mn mc : Nat} (h : ClsAt W al C) (hn : n = C.length) (hok : OkC C) (hnc : al = none → c = 0) (hT : IntsAt W kl T) (htn : tn = T.length) (hTI : ∀ l ∈ T, I64 l) (hm : BoolsAt W ml m) (hmn : mn = m.length) (hg : greatR C [] = false) (hl : tn ≤ 30) (hl2 : mn ≤ 100) (hf : followsP v C T = true) (hh : holdsC m C = false) :
    Calls Try.prog 5 #[.agg #[.int .i64 v, .slice al n c], .slice kl tn tc, .slice ml mn mc] W fun e w => e = .returned (.bool true) ∧ Below W.heap.size W w := by
  have HA := Lib.hid A
  have HC := Lib.hid h
  have HN := Lib.hid hn
  have HOK := Lib.hid hok
  have HNC := Lib.hid hnc
  have HT := Lib.hid hT
  have HTN := Lib.hid htn
  have HTI := Lib.hid hTI
  have HM := Lib.hid hm
  have HMN := Lib.hid hmn
  have HG := Lib.hid hg
  have HG1 : Hid (C.flatten.length ≤ 1000) := Lib.hid (by have := greatR_no hg; omega)
  have HG2 : Hid (n ≤ 1000) := Lib.hid (by have := greatR_no hg; omega)
  have g1 : decide (30 < ((tn : Nat) : Int)) = false := decide_eq_false (by omega)
  have g2 : ¬ 30 < ((tn : Nat) : Int) := by omega
  have g3 : decide (100 < ((mn : Nat) : Int)) = false := decide_eq_false (by omega)
  have g4 : ¬ 100 < ((mn : Nat) : Int) := by omega
  have HL1 : Hid (tn ≤ 100) := Lib.hid (by omega)
  have HL2 : Hid (mn ≤ 1000000) := Lib.hid (by omega)
  have HF := Lib.hid hf
  have HH := Lib.hid hh
  clear A h hn hok hnc hT htn hTI hm hmn hg hl hl2 hf hh
  go_enter Try.func5, Try.ntmps5
  go_wp2_with fail
  have c0 := new_cell W #[.int .i64 v, .slice al n c] 24 0
  have c1 := new_cell W #[.int .i64 v, .slice al n c] 24 1
  have hlt : W.heap.size < (W.alloc (.cells #[.int .i64 v, .slice al n c] 24)).heap.size := by simp
  have HBW := Lib.hid (bel_alloc (Below.refl W.heap.size W) (.cells #[.int .i64 v, .slice al n c] 24))
  generalize W.alloc (.cells #[.int .i64 v, .slice al n c] 24) = U at *
  have c0 : U.cell? ⟨W.heap.size, 0, none⟩ = some (.int .i64 v) := c0
  have c1 : U.cell? ⟨W.heap.size, 1, none⟩ = some (.slice al n c) := c1
  have HX0 := Lib.hid c0
  have HX1 := Lib.hid c1
  have HB0 := Lib.hid (Below.refl U.heap.size U)
  refine (great_bel (HC.out.keep (bel_call HBW.out HB0.out)) HN.out HOK.out (L := []) (.inl rfl) rfl ok_nil).mono ?_
  rintro e w1 ⟨rfl, hb⟩
  rw [HG.out]
  have HB1 := Lib.hid (bel_call HB0.out hb)
  clear hb
  clear c0 c1
  have c0 := (HB1.out.cell (p := ⟨W.heap.size, 0, none⟩) hlt).trans HX0.out
  have c1 := (HB1.out.cell (p := ⟨W.heap.size, 1, none⟩) hlt).trans HX1.out
  go_wp2_with fail
  refine (HA.out.follows _ _ _ C T _ n c tn tc (HC.out.keep (bel_call HBW.out HB1.out)) HN.out HOK.out HNC.out (HT.out.keep (bel_call HBW.out HB1.out)) HTN.out HTI.out HG1.out HG2.out HL1.out).mono ?_
  rintro e w2 ⟨rfl, hb⟩
  rw [HF.out]
  have HB2 := Lib.hid (bel_call HB1.out hb)
  clear hb
  clear c0 c1
  have c0 := (HB2.out.cell (p := ⟨W.heap.size, 0, none⟩) hlt).trans HX0.out
  have c1 := (HB2.out.cell (p := ⟨W.heap.size, 1, none⟩) hlt).trans HX1.out
  go_wp2_with fail
  refine (holds_bel (HC.out.keep (bel_call HBW.out HB2.out)) HN.out HOK.out (HM.out.keep (bel_call HBW.out HB2.out)) HMN.out HL2.out).mono ?_
  rintro e w3 ⟨rfl, hb⟩
  rw [HH.out]
  have HB3 := Lib.hid (bel_call HB2.out hb)
  clear hb
  clear c0 c1
  have c0 := (HB3.out.cell (p := ⟨W.heap.size, 0, none⟩) hlt).trans HX0.out
  have c1 := (HB3.out.cell (p := ⟨W.heap.size, 1, none⟩) hlt).trans HX1.out
  go_wp2_with fail
  refine (lives_any HA.out _).mono ?_
  rintro e w9 ⟨rfl, hb⟩
  have HBL := Lib.hid (bel_call HB3.out hb)
  clear hb
  go_wp2_with fail
  go_ret
  exact ⟨rfl, bel_call HBW.out HBL.out⟩
theorem fol_yes (A : Api) {W : World} {al kl ml : Option Addr} {C : Cl} {T : List Int} {m : List Bool} {v : Int} {n c tn tc mn mc : Nat} (h : ClsAt W al C) (hn : n = C.length) (hok : OkC C) (hnc : al = none → c = 0) (hT : IntsAt W kl T) (htn : tn = T.length) (hTI : ∀ l ∈ T, I64 l) (hm : BoolsAt W ml m) (hmn : mn = m.length) (hg : greatR C [] = false) (hl : tn ≤ 30) (hl2 : mn ≤ 100) (hf : followsP v C T = true) (hh : holdsC m C = true) :
    Calls Try.prog 5 #[.agg #[.int .i64 v, .slice al n c], .slice kl tn tc, .slice ml mn mc] W fun e w => e = .returned (.bool true) ∧ Below W.heap.size W w := by
  have HA := Lib.hid A
  have HC := Lib.hid h
  have HN := Lib.hid hn
  have HOK := Lib.hid hok
  have HNC := Lib.hid hnc
  have HT := Lib.hid hT
  have HTN := Lib.hid htn
  have HTI := Lib.hid hTI
  have HM := Lib.hid hm
  have HMN := Lib.hid hmn
  have HG := Lib.hid hg
  have HG1 : Hid (C.flatten.length ≤ 1000) := Lib.hid (by have := greatR_no hg; omega)
  have HG2 : Hid (n ≤ 1000) := Lib.hid (by have := greatR_no hg; omega)
  have g1 : decide (30 < ((tn : Nat) : Int)) = false := decide_eq_false (by omega)
  have g2 : ¬ 30 < ((tn : Nat) : Int) := by omega
  have g3 : decide (100 < ((mn : Nat) : Int)) = false := decide_eq_false (by omega)
  have g4 : ¬ 100 < ((mn : Nat) : Int) := by omega
  have HL1 : Hid (tn ≤ 100) := Lib.hid (by omega)
  have HL2 : Hid (mn ≤ 1000000) := Lib.hid (by omega)
  have HF := Lib.hid hf
  have HH := Lib.hid hh
  have HE : Hid (holdsC m [T] = true) := Lib.hid (by have := follows_holds hf hh; unfold holdsC; simpa using this)
  have HO1 := Lib.hid (okC_one (k := T) (by omega) hTI)
  have hbv := build_vs
  clear A h hn hok hnc hT htn hTI hm hmn hg hl hl2 hf hh
  go_enter Try.func5, Try.ntmps5
  go_wp2_with fail
  have c0 := new_cell W #[.int .i64 v, .slice al n c] 24 0
  have c1 := new_cell W #[.int .i64 v, .slice al n c] 24 1
  have hlt : W.heap.size < (W.alloc (.cells #[.int .i64 v, .slice al n c] 24)).heap.size := by simp
  have HBW := Lib.hid (bel_alloc (Below.refl W.heap.size W) (.cells #[.int .i64 v, .slice al n c] 24))
  generalize W.alloc (.cells #[.int .i64 v, .slice al n c] 24) = U at *
  have c0 : U.cell? ⟨W.heap.size, 0, none⟩ = some (.int .i64 v) := c0
  have c1 : U.cell? ⟨W.heap.size, 1, none⟩ = some (.slice al n c) := c1
  have HX0 := Lib.hid c0
  have HX1 := Lib.hid c1
  have HB0 := Lib.hid (Below.refl U.heap.size U)
  refine (great_bel (HC.out.keep (bel_call HBW.out HB0.out)) HN.out HOK.out (L := []) (.inl rfl) rfl ok_nil).mono ?_
  rintro e w1 ⟨rfl, hb⟩
  rw [HG.out]
  have HB1 := Lib.hid (bel_call HB0.out hb)
  clear hb
  clear c0 c1
  have c0 := (HB1.out.cell (p := ⟨W.heap.size, 0, none⟩) hlt).trans HX0.out
  have c1 := (HB1.out.cell (p := ⟨W.heap.size, 1, none⟩) hlt).trans HX1.out
  go_wp2_with fail
  refine (HA.out.follows _ _ _ C T _ n c tn tc (HC.out.keep (bel_call HBW.out HB1.out)) HN.out HOK.out HNC.out (HT.out.keep (bel_call HBW.out HB1.out)) HTN.out HTI.out HG1.out HG2.out HL1.out).mono ?_
  rintro e w2 ⟨rfl, hb⟩
  rw [HF.out]
  have HB2 := Lib.hid (bel_call HB1.out hb)
  clear hb
  clear c0 c1
  have c0 := (HB2.out.cell (p := ⟨W.heap.size, 0, none⟩) hlt).trans HX0.out
  have c1 := (HB2.out.cell (p := ⟨W.heap.size, 1, none⟩) hlt).trans HX1.out
  go_wp2_with fail
  refine (holds_bel (HC.out.keep (bel_call HBW.out HB2.out)) HN.out HOK.out (HM.out.keep (bel_call HBW.out HB2.out)) HMN.out HL2.out).mono ?_
  rintro e w3 ⟨rfl, hb⟩
  rw [HH.out]
  have HB3 := Lib.hid (bel_call HB2.out hb)
  clear hb
  clear c0 c1
  have c0 := (HB3.out.cell (p := ⟨W.heap.size, 0, none⟩) hlt).trans HX0.out
  have c1 := (HB3.out.cell (p := ⟨W.heap.size, 1, none⟩) hlt).trans HX1.out
  go_wp2_with fail
  clear c0 c1
  have HB4 := Lib.hid (bel_alloc HB3.out (.cells #[.slice kl tn tc] 25))
  refine (holds_bel (v := v) (cls_one (HT.out.keep (bel_call HBW.out HB3.out)) HTN.out) rfl HO1.out (HM.out.keep (bel_call HBW.out HB4.out)) HMN.out HL2.out).mono ?_
  rintro e w5 ⟨rfl, hb⟩
  rw [HE.out]
  have HB5 := Lib.hid (bel_call HB4.out hb)
  clear hb
  go_wp2_with fail
  refine (lives_any HA.out _).mono ?_
  rintro e w9 ⟨rfl, hb⟩
  have HBL := Lib.hid (bel_call HB5.out hb)
  clear hb
  go_wp2_with fail
  go_ret
  exact ⟨rfl, bel_call HBW.out HBL.out⟩
theorem rupFollows_any (A : Api) {W : World} {al kl ml : Option Addr} {C : Cl} {T : List Int} {m : List Bool} {v : Int} {n c tn tc mn mc : Nat} (h : ClsAt W al C) (hn : n = C.length) (hok : OkC C) (hnc : al = none → c = 0) (hT : IntsAt W kl T) (htn : tn = T.length) (hTI : ∀ l ∈ T, I64 l) (hm : BoolsAt W ml m) (hmn : mn = m.length) :
    Calls Try.prog 5 #[.agg #[.int .i64 v, .slice al n c], .slice kl tn tc, .slice ml mn mc] W fun e w => e = .returned (.bool true) ∧ Below W.heap.size W w := by
  cases hg : greatR C [] with
  | true => exact fol_great A h hn hok hnc hT htn hTI hm hmn hg
  | false =>
    by_cases h1 : 30 < tn
    · exact fol_long A h hn hok hnc hT htn hTI hm hmn hg h1
    · by_cases h2 : 100 < mn
      · exact fol_wide A h hn hok hnc hT htn hTI hm hmn hg (by omega) h2
      · cases hf : followsP v C T with
        | false => exact fol_not A h hn hok hnc hT htn hTI hm hmn hg (by omega) (by omega) hf
        | true =>
          cases hh : holdsC m C with
          | false => exact fol_none A h hn hok hnc hT htn hTI hm hmn hg (by omega) (by omega) hf hh
          | true => exact fol_yes A h hn hok hnc hT htn hTI hm hmn hg (by omega) (by omega) hf hh
end Rp
end Go.Proofs.Ytmgkgbhkaoflhaa
