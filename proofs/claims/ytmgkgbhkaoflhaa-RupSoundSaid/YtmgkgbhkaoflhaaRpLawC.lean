/-
  RupSound, walked over Api.
-/
import Derived.Test.YtmgkgbhkaoflhaaRpLawA
import Derived.Test.YtmgkgbhkaoflhaaRpRow
namespace Go.Proofs.Ytmgkgbhkaoflhaa
open Go.RowKit
namespace Rp
open Cf
set_option maxHeartbeats 3200000
set_option maxRecDepth 100000

theorem ORow.lt {B b : Nat} {v : Value} {D : Cl} {w : World} (h : ORow B b v D w) {g : Nat} (hg : v.ownBlock = some g) : g < w.heap.size := by
  obtain ⟨xs, ⟨_, ⟨h1, h2⟩ | ⟨g', cap, cur, hv, hb, hh, _⟩⟩, _⟩ := h.row
  · rw [h1] at hg; cases hg
  · rw [hv] at hg; injection hg with hg; rw [← hg]; exact (Array.getElem?_eq_some_iff.1 hh).1
def ones (g : List Int) : Cl := g.map fun l => [l]
theorem okC_ones {g : List Int} (hI : ∀ l ∈ g, I64 l) (hl : g.length ≤ 1000) : OkC (ones g) := by
  refine ⟨by unfold ones; rw [List.length_map]; omega, fun k hk => ?_, fun k hk => ?_⟩
  · obtain ⟨l, _, rfl⟩ := List.mem_map.1 hk
    simp
  · obtain ⟨l, h, rfl⟩ := List.mem_map.1 hk
    intro y hy
    simp at hy
    subst hy
    exact hI _ h
theorem ones_next {g : List Int} {i : Nat} {x : Int} (h : g[i]? = some x) : ones (g.take (i + 1)) = ones (g.take i) ++ [[x]] := by
  unfold ones
  rw [List.take_add_one, h, List.map_append]; rfl
theorem sound_no {m : List Bool} {v : Int} {C P : Cl} {g : List Int} (h : checkP v C g P = 0) : holdsC m (C ++ ones g) = false := by
  cases e : holdsC m (C ++ ones g) with
  | false => rfl
  | true =>
    refine (check_sound (m := m) h ?_ ?_).elim
    · unfold holdsC at *
      rw [List.all_append] at e
      simp only [Bool.and_eq_true] at e
      exact e.1
    · intro l hl
      unfold holdsC at e
      rw [List.all_append] at e
      simp only [Bool.and_eq_true] at e
      have := List.all_eq_true.1 e.2 [l] (List.mem_map.2 ⟨l, hl, rfl⟩)
      simpa using this
theorem snd_great (A : Api) {W : World} {al gl pl ml : Option Addr} {C : Cl} {g : List Int} {P : Cl} {m : List Bool} {v : Int} {n c gn gc pn pc mn mc : Nat} (h : ClsAt W al C) (hn : n = C.length) (hok : OkC C) (hnc : al = none → c = 0) (hgi : IntsAt W gl g) (hgn : gn = g.length) (hgI : ∀ l ∈ g, I64 l) (hP : ClsAt W pl P) (hpn : pn = P.length) (hokP : OkC P) (hm : BoolsAt W ml m) (hmn : mn = m.length) (hg : greatR C P = true) :
    Calls Try.prog 4 #[.agg #[.int .i64 v, .slice al n c], .slice gl gn gc, .slice pl pn pc, .slice ml mn mc] W fun e w => e = .returned (.bool true) ∧ Below W.heap.size W w := by
  have HA := Lib.hid A
  have HC := Lib.hid h
  have HN := Lib.hid hn
  have HOK := Lib.hid hok
  have HNC := Lib.hid hnc
  have HGI := Lib.hid hgi
  have HGN := Lib.hid hgn
  have HGI6 := Lib.hid hgI
  have HP := Lib.hid hP
  have HPN := Lib.hid hpn
  have HOKP := Lib.hid hokP
  have HM := Lib.hid hm
  have HMN := Lib.hid hmn
  have HG := Lib.hid hg
  clear A h hn hok hnc hgi hgn hgI hP hpn hokP hm hmn hg
  go_enter Try.func4, Try.ntmps4
  go_wp2_with fail
  have c0 := new_cell W #[.int .i64 v, .slice al n c] 24 0
  have c1 := new_cell W #[.int .i64 v, .slice al n c] 24 1
  have hlt : W.heap.size < (W.alloc (.cells #[.int .i64 v, .slice al n c] 24)).heap.size := by simp
  have HBW := Lib.hid (bel_alloc (Below.refl W.heap.size W) (.cells #[.int .i64 v, .slice al n c] 24))
  generalize W.alloc (.cells #[.int .i64 v, .slice al n c] 24) = U at *
  have c0 : U.cell? ⟨W.heap.size, 0, none⟩ = some (.int .i64 v) := c0
  have c1 : U.cell? ⟨W.heap.size, 1, none⟩ = some (.slice al n c) := c1
  have HX0 := Lib.hid c0
  have HX1 := Lib.hid c1
  have HB0 := Lib.hid (Below.refl U.heap.size U)
  refine (great_bel (HC.out.keep (bel_call HBW.out HB0.out)) HN.out HOK.out (HP.out.keep (bel_call HBW.out HB0.out)) HPN.out HOKP.out).mono ?_
  rintro e w1 ⟨rfl, hb⟩
  rw [HG.out]
  have HB1 := Lib.hid (bel_call HB0.out hb)
  clear hb
  clear c0 c1
  have c0 := (HB1.out.cell (p := ⟨W.heap.size, 0, none⟩) hlt).trans HX0.out
  have c1 := (HB1.out.cell (p := ⟨W.heap.size, 1, none⟩) hlt).trans HX1.out
  go_wp2_with fail
  refine (lives_any HA.out _).mono ?_
  rintro e w9 ⟨rfl, hb⟩
  have HBL := Lib.hid (bel_call HB1.out hb)
  clear hb
  go_wp2_with fail
  go_ret
  exact ⟨rfl, bel_call HBW.out HBL.out⟩
theorem snd_long (A : Api) {W : World} {al gl pl ml : Option Addr} {C : Cl} {g : List Int} {P : Cl} {m : List Bool} {v : Int} {n c gn gc pn pc mn mc : Nat} (h : ClsAt W al C) (hn : n = C.length) (hok : OkC C) (hnc : al = none → c = 0) (hgi : IntsAt W gl g) (hgn : gn = g.length) (hgI : ∀ l ∈ g, I64 l) (hP : ClsAt W pl P) (hpn : pn = P.length) (hokP : OkC P) (hm : BoolsAt W ml m) (hmn : mn = m.length) (hg : greatR C P = false) (hl : 30 < gn) :
    Calls Try.prog 4 #[.agg #[.int .i64 v, .slice al n c], .slice gl gn gc, .slice pl pn pc, .slice ml mn mc] W fun e w => e = .returned (.bool true) ∧ Below W.heap.size W w := by
  have HA := Lib.hid A
  have HC := Lib.hid h
  have HN := Lib.hid hn
  have HOK := Lib.hid hok
  have HNC := Lib.hid hnc
  have HGI := Lib.hid hgi
  have HGN := Lib.hid hgn
  have HGI6 := Lib.hid hgI
  have HP := Lib.hid hP
  have HPN := Lib.hid hpn
  have HOKP := Lib.hid hokP
  have HM := Lib.hid hm
  have HMN := Lib.hid hmn
  have HG := Lib.hid hg
  have g1 : decide (30 < ((gn : Nat) : Int)) = true := decide_eq_true (by omega)
  have g2 : 30 < ((gn : Nat) : Int) := by omega
  clear A h hn hok hnc hgi hgn hgI hP hpn hokP hm hmn hg hl
  go_enter Try.func4, Try.ntmps4
  go_wp2_with fail
  have c0 := new_cell W #[.int .i64 v, .slice al n c] 24 0
  have c1 := new_cell W #[.int .i64 v, .slice al n c] 24 1
  have hlt : W.heap.size < (W.alloc (.cells #[.int .i64 v, .slice al n c] 24)).heap.size := by simp
  have HBW := Lib.hid (bel_alloc (Below.refl W.heap.size W) (.cells #[.int .i64 v, .slice al n c] 24))
  generalize W.alloc (.cells #[.int .i64 v, .slice al n c] 24) = U at *
  have c0 : U.cell? ⟨W.heap.size, 0, none⟩ = some (.int .i64 v) := c0
  have c1 : U.cell? ⟨W.heap.size, 1, none⟩ = some (.slice al n c) := c1
  have HX0 := Lib.hid c0
  have HX1 := Lib.hid c1
  have HB0 := Lib.hid (Below.refl U.heap.size U)
  refine (great_bel (HC.out.keep (bel_call HBW.out HB0.out)) HN.out HOK.out (HP.out.keep (bel_call HBW.out HB0.out)) HPN.out HOKP.out).mono ?_
  rintro e w1 ⟨rfl, hb⟩
  rw [HG.out]
  have HB1 := Lib.hid (bel_call HB0.out hb)
  clear hb
  clear c0 c1
  have c0 := (HB1.out.cell (p := ⟨W.heap.size, 0, none⟩) hlt).trans HX0.out
  have c1 := (HB1.out.cell (p := ⟨W.heap.size, 1, none⟩) hlt).trans HX1.out
  go_wp2_with fail
  refine (lives_any HA.out _).mono ?_
  rintro e w9 ⟨rfl, hb⟩
  have HBL := Lib.hid (bel_call HB1.out hb)
  clear hb
  go_wp2_with fail
  go_ret
  exact ⟨rfl, bel_call HBW.out HBL.out⟩
theorem snd_wide (A : Api) {W : World} {al gl pl ml : Option Addr} {C : Cl} {g : List Int} {P : Cl} {m : List Bool} {v : Int} {n c gn gc pn pc mn mc : Nat} (h : ClsAt W al C) (hn : n = C.length) (hok : OkC C) (hnc : al = none → c = 0) (hgi : IntsAt W gl g) (hgn : gn = g.length) (hgI : ∀ l ∈ g, I64 l) (hP : ClsAt W pl P) (hpn : pn = P.length) (hokP : OkC P) (hm : BoolsAt W ml m) (hmn : mn = m.length) (hg : greatR C P = false) (hl : gn ≤ 30) (hl2 : 100 < mn) :
    Calls Try.prog 4 #[.agg #[.int .i64 v, .slice al n c], .slice gl gn gc, .slice pl pn pc, .slice ml mn mc] W fun e w => e = .returned (.bool true) ∧ Below W.heap.size W w := by
  have HA := Lib.hid A
  have HC := Lib.hid h
  have HN := Lib.hid hn
  have HOK := Lib.hid hok
  have HNC := Lib.hid hnc
  have HGI := Lib.hid hgi
  have HGN := Lib.hid hgn
  have HGI6 := Lib.hid hgI
  have HP := Lib.hid hP
  have HPN := Lib.hid hpn
  have HOKP := Lib.hid hokP
  have HM := Lib.hid hm
  have HMN := Lib.hid hmn
  have HG := Lib.hid hg
  have g1 : decide (30 < ((gn : Nat) : Int)) = false := decide_eq_false (by omega)
  have g2 : ¬ 30 < ((gn : Nat) : Int) := by omega
  have g3 : decide (100 < ((mn : Nat) : Int)) = true := decide_eq_true (by omega)
  have g4 : 100 < ((mn : Nat) : Int) := by omega
  clear A h hn hok hnc hgi hgn hgI hP hpn hokP hm hmn hg hl hl2
  go_enter Try.func4, Try.ntmps4
  go_wp2_with fail
  have c0 := new_cell W #[.int .i64 v, .slice al n c] 24 0
  have c1 := new_cell W #[.int .i64 v, .slice al n c] 24 1
  have hlt : W.heap.size < (W.alloc (.cells #[.int .i64 v, .slice al n c] 24)).heap.size := by simp
  have HBW := Lib.hid (bel_alloc (Below.refl W.heap.size W) (.cells #[.int .i64 v, .slice al n c] 24))
  generalize W.alloc (.cells #[.int .i64 v, .slice al n c] 24) = U at *
  have c0 : U.cell? ⟨W.heap.size, 0, none⟩ = some (.int .i64 v) := c0
  have c1 : U.cell? ⟨W.heap.size, 1, none⟩ = some (.slice al n c) := c1
  have HX0 := Lib.hid c0
  have HX1 := Lib.hid c1
  have HB0 := Lib.hid (Below.refl U.heap.size U)
  refine (great_bel (HC.out.keep (bel_call HBW.out HB0.out)) HN.out HOK.out (HP.out.keep (bel_call HBW.out HB0.out)) HPN.out HOKP.out).mono ?_
  rintro e w1 ⟨rfl, hb⟩
  rw [HG.out]
  have HB1 := Lib.hid (bel_call HB0.out hb)
  clear hb
  clear c0 c1
  have c0 := (HB1.out.cell (p := ⟨W.heap.size, 0, none⟩) hlt).trans HX0.out
  have c1 := (HB1.out.cell (p := ⟨W.heap.size, 1, none⟩) hlt).trans HX1.out
  go_wp2_with fail
  refine (lives_any HA.out _).mono ?_
  rintro e w9 ⟨rfl, hb⟩
  have HBL := Lib.hid (bel_call HB1.out hb)
  clear hb
  go_wp2_with fail
  go_ret
  exact ⟨rfl, bel_call HBW.out HBL.out⟩
theorem snd_not (A : Api) {W : World} {al gl pl ml : Option Addr} {C : Cl} {g : List Int} {P : Cl} {m : List Bool} {v : Int} {n c gn gc pn pc mn mc : Nat} (h : ClsAt W al C) (hn : n = C.length) (hok : OkC C) (hnc : al = none → c = 0) (hgi : IntsAt W gl g) (hgn : gn = g.length) (hgI : ∀ l ∈ g, I64 l) (hP : ClsAt W pl P) (hpn : pn = P.length) (hokP : OkC P) (hm : BoolsAt W ml m) (hmn : mn = m.length) (hg : greatR C P = false) (hl : gn ≤ 30) (hl2 : mn ≤ 100) (hf : ¬ checkP v C g P = 0) :
    Calls Try.prog 4 #[.agg #[.int .i64 v, .slice al n c], .slice gl gn gc, .slice pl pn pc, .slice ml mn mc] W fun e w => e = .returned (.bool true) ∧ Below W.heap.size W w := by
  have HA := Lib.hid A
  have HC := Lib.hid h
  have HN := Lib.hid hn
  have HOK := Lib.hid hok
  have HNC := Lib.hid hnc
  have HGI := Lib.hid hgi
  have HGN := Lib.hid hgn
  have HGI6 := Lib.hid hgI
  have HP := Lib.hid hP
  have HPN := Lib.hid hpn
  have HOKP := Lib.hid hokP
  have HM := Lib.hid hm
  have HMN := Lib.hid hmn
  have g1 : decide (30 < ((gn : Nat) : Int)) = false := decide_eq_false (by omega)
  have g2 : ¬ 30 < ((gn : Nat) : Int) := by omega
  have g3 : decide (100 < ((mn : Nat) : Int)) = false := decide_eq_false (by omega)
  have g4 : ¬ 100 < ((mn : Nat) : Int) := by omega
  have HG := Lib.hid hg
  have HZ1 : Hid (C.flatten.length + P.flatten.length ≤ 1000) := Lib.hid (by have := greatR_no hg; omega)
  have HZ2 : Hid (C.length + P.length ≤ 1000) := Lib.hid (by have := greatR_no hg; omega)
  have HZ3 : Hid (gn ≤ 100) := Lib.hid (by omega)
  have HZ4 : Hid (mn ≤ 1000000) := Lib.hid (by omega)
  have HZ5 : Hid (C.length ≤ 100) := Lib.hid (by have := greatR_no hg; omega)
  clear A h hn hok hnc hgi hgn hgI hP hpn hokP hm hmn hg hl hl2
  go_enter Try.func4, Try.ntmps4
  go_wp2_with fail
  have c0 := new_cell W #[.int .i64 v, .slice al n c] 24 0
  have c1 := new_cell W #[.int .i64 v, .slice al n c] 24 1
  have hlt : W.heap.size < (W.alloc (.cells #[.int .i64 v, .slice al n c] 24)).heap.size := by simp
  have HBW := Lib.hid (bel_alloc (Below.refl W.heap.size W) (.cells #[.int .i64 v, .slice al n c] 24))
  generalize W.alloc (.cells #[.int .i64 v, .slice al n c] 24) = U at *
  have c0 : U.cell? ⟨W.heap.size, 0, none⟩ = some (.int .i64 v) := c0
  have c1 : U.cell? ⟨W.heap.size, 1, none⟩ = some (.slice al n c) := c1
  have HX0 := Lib.hid c0
  have HX1 := Lib.hid c1
  have HB0 := Lib.hid (Below.refl U.heap.size U)
  refine (great_bel (HC.out.keep (bel_call HBW.out HB0.out)) HN.out HOK.out (HP.out.keep (bel_call HBW.out HB0.out)) HPN.out HOKP.out).mono ?_
  rintro e w1 ⟨rfl, hb⟩
  rw [HG.out]
  have HB1 := Lib.hid (bel_call HB0.out hb)
  clear hb
  clear c0 c1
  have c0 := (HB1.out.cell (p := ⟨W.heap.size, 0, none⟩) hlt).trans HX0.out
  have c1 := (HB1.out.cell (p := ⟨W.heap.size, 1, none⟩) hlt).trans HX1.out
  go_wp2_with fail
  refine (HA.out.check _ _ _ _ C g P _ n c gn gc pn pc (HC.out.keep (bel_call HBW.out HB1.out)) HN.out HOK.out HNC.out (HGI.out.keep (bel_call HBW.out HB1.out)) HGN.out HGI6.out (HP.out.keep (bel_call HBW.out HB1.out)) HPN.out HOKP.out HZ1.out HZ2.out HZ3.out).mono ?_
  rintro e w2 ⟨rfl, hb⟩
  generalize checkP v C g P = ck at hf ⊢
  have g5 : decide (ck = 0) = false := decide_eq_false hf
  have g6 : (ck != 0) = true := by simpa using hf
  have HB2 := Lib.hid (bel_call HB1.out hb)
  clear hb
  clear c0 c1
  have c0 := (HB2.out.cell (p := ⟨W.heap.size, 0, none⟩) hlt).trans HX0.out
  have c1 := (HB2.out.cell (p := ⟨W.heap.size, 1, none⟩) hlt).trans HX1.out
  go_wp2_with fail
  refine (lives_any HA.out _).mono ?_
  rintro e w9 ⟨rfl, hb⟩
  have HBL := Lib.hid (bel_call HB2.out hb)
  clear hb
  go_wp2_with fail
  go_ret
  exact ⟨rfl, bel_call HBW.out HBL.out⟩
theorem snd_go (A : Api) {W : World} {al gl pl ml : Option Addr} {C : Cl} {g : List Int} {P : Cl} {m : List Bool} {v : Int} {n c gn gc pn pc mn mc : Nat} (h : ClsAt W al C) (hn : n = C.length) (hok : OkC C) (hnc : al = none → c = 0) (hgi : IntsAt W gl g) (hgn : gn = g.length) (hgI : ∀ l ∈ g, I64 l) (hP : ClsAt W pl P) (hpn : pn = P.length) (hokP : OkC P) (hm : BoolsAt W ml m) (hmn : mn = m.length) (hg : greatR C P = false) (hl : gn ≤ 30) (hl2 : mn ≤ 100) (hf : checkP v C g P = 0) :
    Calls Try.prog 4 #[.agg #[.int .i64 v, .slice al n c], .slice gl gn gc, .slice pl pn pc, .slice ml mn mc] W fun e w => e = .returned (.bool true) ∧ Below W.heap.size W w := by
  have HA := Lib.hid A
  have HC := Lib.hid h
  have HN := Lib.hid hn
  have HOK := Lib.hid hok
  have HNC := Lib.hid hnc
  have HGI := Lib.hid hgi
  have HGN := Lib.hid hgn
  have HGI6 := Lib.hid hgI
  have HP := Lib.hid hP
  have HPN := Lib.hid hpn
  have HOKP := Lib.hid hokP
  have HM := Lib.hid hm
  have HMN := Lib.hid hmn
  have g1 : decide (30 < ((gn : Nat) : Int)) = false := decide_eq_false (by omega)
  have g2 : ¬ 30 < ((gn : Nat) : Int) := by omega
  have g3 : decide (100 < ((mn : Nat) : Int)) = false := decide_eq_false (by omega)
  have g4 : ¬ 100 < ((mn : Nat) : Int) := by omega
  have HG := Lib.hid hg
  have HZ1 : Hid (C.flatten.length + P.flatten.length ≤ 1000) := Lib.hid (by have := greatR_no hg; omega)
  have HZ2 : Hid (C.length + P.length ≤ 1000) := Lib.hid (by have := greatR_no hg; omega)
  have HZ3 : Hid (gn ≤ 100) := Lib.hid (by omega)
  have HZ4 : Hid (mn ≤ 1000000) := Lib.hid (by omega)
  have HZ5 : Hid (C.length ≤ 100) := Lib.hid (by have := greatR_no hg; omega)
  have HF := Lib.hid hf
  clear A h hn hok hnc hgi hgn hgI hP hpn hokP hm hmn hg hl hl2 hf
  have hbt := build_v
  go_enter Try.func4, Try.ntmps4
  go_wp2_with fail
  have c0 := new_cell W #[.int .i64 v, .slice al n c] 24 0
  have c1 := new_cell W #[.int .i64 v, .slice al n c] 24 1
  have hlt : W.heap.size < (W.alloc (.cells #[.int .i64 v, .slice al n c] 24)).heap.size := by simp
  have HBW := Lib.hid (bel_alloc (Below.refl W.heap.size W) (.cells #[.int .i64 v, .slice al n c] 24))
  generalize W.alloc (.cells #[.int .i64 v, .slice al n c] 24) = U at *
  have c0 : U.cell? ⟨W.heap.size, 0, none⟩ = some (.int .i64 v) := c0
  have c1 : U.cell? ⟨W.heap.size, 1, none⟩ = some (.slice al n c) := c1
  have HX0 := Lib.hid c0
  have HX1 := Lib.hid c1
  have HB0 := Lib.hid (Below.refl U.heap.size U)
  refine (great_bel (HC.out.keep (bel_call HBW.out HB0.out)) HN.out HOK.out (HP.out.keep (bel_call HBW.out HB0.out)) HPN.out HOKP.out).mono ?_
  rintro e w1 ⟨rfl, hb⟩
  rw [HG.out]
  have HB1 := Lib.hid (bel_call HB0.out hb)
  clear hb
  clear c0 c1
  have c0 := (HB1.out.cell (p := ⟨W.heap.size, 0, none⟩) hlt).trans HX0.out
  have c1 := (HB1.out.cell (p := ⟨W.heap.size, 1, none⟩) hlt).trans HX1.out
  go_wp2_with fail
  refine (HA.out.check _ _ _ _ C g P _ n c gn gc pn pc (HC.out.keep (bel_call HBW.out HB1.out)) HN.out HOK.out HNC.out (HGI.out.keep (bel_call HBW.out HB1.out)) HGN.out HGI6.out (HP.out.keep (bel_call HBW.out HB1.out)) HPN.out HOKP.out HZ1.out HZ2.out HZ3.out).mono ?_
  rintro e w2 ⟨rfl, hb⟩
  rw [HF.out]
  have HB2 := Lib.hid (bel_call HB1.out hb)
  clear hb
  clear c0 c1
  have c0 := (HB2.out.cell (p := ⟨W.heap.size, 0, none⟩) hlt).trans HX0.out
  have c1 := (HB2.out.cell (p := ⟨W.heap.size, 1, none⟩) hlt).trans HX1.out
  obtain ⟨wA, hwA⟩ : ∃ wA, wA = w2 := ⟨_, rfl⟩
  subst hwA
  have lb : W.heap.size < wA.heap.size := Nat.lt_of_lt_of_le hlt HB2.out.size
  have HBR : Hid (Below W.heap.size W wA) := Lib.hid (bel_call HBW.out HB2.out)
  go_upto_region 4 with fail
  change Code.wp _ _ _ _ (wA.alloc (.cells #[.int .i64 v, .slice none 0 0] 24))
  have HD2 := Lib.hid (ResAt.new (W := wA) (v := v) (s := .slice none 0 0))
  have hk2 := bel_alloc (Below.refl wA.heap.size wA) (.cells #[.int .i64 v, .slice none 0 0] 24)
  have HB5 := Lib.hid hk2
  have hlt2 : wA.heap.size < (wA.alloc (.cells #[.int .i64 v, .slice none 0 0] 24)).heap.size := by simp
  generalize wA.alloc (.cells #[.int .i64 v, .slice none 0 0] 24) = u2 at hk2 HB5 HD2 hlt2 ⊢
  have d0 := HD2.out.c0
  have d1 := HD2.out.c1
  have df := HD2.out.fr 1
  have e1 : u2.cell? ⟨W.heap.size, 1, none⟩ = some (.slice al n c) := (hk2.cell (p := ⟨W.heap.size, 1, none⟩) lb).trans c1
  have HBW2 := Lib.hid (bel_call HBR.out hk2)
  clear hk2 c0 c1
  have hcl := HZ5.out
  have hnn := HN.out
  subst hnn
  go_upto_region 5 with (at_builtin; go_must (refine wpList_all (B := u2.heap.size) rfl (.tmp 36) (.tmp 38) rfl rfl HC.out HNC.out HBW2.out (Nat.le_refl _) rfl (by omega) ?_; intro va vc w3 hd3 hg3; have HR3 := Lib.hid hd3; have HG3 := Lib.hid hg3; have HD3 := Lib.hid (HD2.out.grown hg3 (fun e => by cases e)); have x0 := HD3.out.c0; have x1 := HD3.out.c1; have xf := HD3.out.fr 1; clear hd3 hg3))
  have HB3 := Lib.hid (bel_grown HB5.out HG3.out (fun i hi => by cases hi))
  have HR3' : Hid (ORow u2.heap.size wA.heap.size (.slice va C.length vc) C w3) := Lib.hid (ORow.of HR3.out (bel_call HBR.out HB3.out) (by omega) (by omega))
  have HB4 := Lib.hid (HB3.out.setCell (p := ⟨wA.heap.size, 1, none⟩) (Nat.le_refl _) (.slice va C.length vc))
  have HD4 := Lib.hid (HD3.out.put (u := .slice va C.length vc))
  have HR4 := Lib.hid (HR3'.out.put (o := 1) (u := .slice va C.length vc) hlt2)
  have HS4 : Hid (u2.heap.size ≤ (w3.setCell ⟨wA.heap.size, 1, none⟩ (.slice va C.length vc)).heap.size) := by
    show _ ≤ _
    have := HG3.out.size
    simpa [World.setCell] using this
  clear d0 d1 df x0 x1 xf e1 HG3 HD3 HR3 HR3' HB3 HD2
  generalize w3.setCell ⟨wA.heap.size, 1, none⟩ (.slice va C.length vc) = w4 at HB4 HD4 HR4 HS4 ⊢
  go_wp2_with fail
  go_loopg [10] gn (fun gk v9 wr => ∃ (i : Nat) (D : Cl) (dn dc : Nat) (da : Option Addr), v9 = .int .i64 ((i : Nat) : Int) ∧ i + gk = gn ∧ dn ≤ 1000 ∧ Hid (D = C ++ ones (g.take i) ∧ dn = D.length ∧ ResAt wA.heap.size v (.slice da dn dc) wr ∧ ORow u2.heap.size wA.heap.size (.slice da dn dc) D wr ∧ Below wA.heap.size wA wr ∧ u2.heap.size ≤ wr.heap.size))
  case atStart => exact ⟨0, C, C.length, vc, va, rfl, by omega, by omega, Lib.hid ⟨by simp [ones], rfl, HD4.out, HR4.out, HB4.out, HS4.out⟩⟩
  case round =>
    obtain ⟨j, D, dn, dc, da, rfl, hgk2, hdn, HST⟩ := hrel
    clear HD4 HR4 HB4 HS4
    have HG2 := Lib.hid hgk2
    have j0 : (0 : Int) ≤ ((j : Nat) : Int) := by omega
    have HBX : Hid (Below W.heap.size W wr) := Lib.hid (bel_call HBR.out HST.out.2.2.2.2.1)
    have HDL : Hid (D.length ≤ 200 ∧ OkC D) := Lib.hid (by
      have h1 := HST.out.1
      have h3 := HZ5.out
      have h4 := HZ3.out
      have h5 := HGN.out
      have h6 : (g.take j).length ≤ g.length := by rw [List.length_take]; omega
      have h7 : (ones (g.take j)).length = (g.take j).length := List.length_map ..
      refine ⟨?_, ?_⟩
      · rw [h1, List.length_append]; omega
      · rw [h1]; exact okC_app HOK.out (okC_ones (fun l hl => HGI6.out l (List.mem_of_mem_take hl)) (by omega)) (by omega))
    have d0 := HST.out.2.2.1.c0
    have d1 := HST.out.2.2.1.c1
    have df := HST.out.2.2.1.fr 1
    have dl := HST.out.2.2.1.lt
    by_cases hlt2' : j < gn
    · have g5 : decide (((j : Nat) : Int) < ((gn : Nat) : Int)) = true := decide_eq_true (by omega)
      have g6 : ((j : Nat) : Int) < ((gn : Nat) : Int) := by omega
      obtain ⟨x, hx⟩ : ∃ x, g[j]? = some x := ⟨_, List.getElem?_eq_getElem (by rw [← HGN.out]; exact hlt2')⟩
      obtain ⟨pb, po, rfl, hbl, hc⟩ := ints_at (HGI.out.keep HBX.out) hx
      have HX := Lib.hid hx
      have HLT := Lib.hid hlt2'
      have HS := Lib.hid (step_i (j := j) (by omega))
      clear hgk2 hx hlt2'
      go_wp2_with fail
      have HR5 : Hid (ORow u2.heap.size wA.heap.size (.slice da dn dc) D (wr.drew.alloc (.cells #[.int .i64 x] 3))) := Lib.hid (HST.out.2.2.2.1.call (bel_alloc (bel_drewN (Below.refl _ _) 1) _))
      have HI5 : Hid (LAt wA.heap.size (.slice da dn dc) (wr.drew.alloc (.cells #[.int .i64 x] 3)) (some ⟨wr.drew.heap.size, 0, none⟩) [x]) := Lib.hid (by
        have hh := HST.out.2.2.2.1
        refine .inr ⟨wr.drew.heap.size, 0, rfl, by simp, ?_, ?_, fun i y hy => ?_⟩
        · show wr.heap.size ≠ _; omega
        · intro e
          have := hh.lt e.symm
          have e2 : wr.drew.heap.size = wr.heap.size := rfl
          omega
        · match i, hy with
          | 0, hy => simp at hy; subst hy; exact new_cell wr.drew #[.int .i64 x] 3 0
          | i + 1, hy => simp at hy)
      have HD5 : Hid (ResAt wA.heap.size v (.slice da dn dc) ((wr.drew.alloc (.cells #[.int .i64 x] 3)).alloc (.cells #[.slice (some ⟨wr.drew.heap.size, 0, none⟩) 1 1] 25))) := Lib.hid (HST.out.2.2.1.call (bel_call (bel_alloc (bel_drewN (Below.refl _ _) 1) _) (bel_alloc (Below.refl _ _) _)))
      have HB5' : Hid (Below wA.heap.size wA ((wr.drew.alloc (.cells #[.int .i64 x] 3)).alloc (.cells #[.slice (some ⟨wr.drew.heap.size, 0, none⟩) 1 1] 25))) := Lib.hid (bel_call HST.out.2.2.2.2.1 (bel_call (bel_alloc (bel_drewN (Below.refl _ _) 1) _) (bel_alloc (Below.refl _ _) _)))
      have HS5 : Hid (u2.heap.size ≤ (wr.drew.alloc (.cells #[.int .i64 x] 3)).heap.size) := Lib.hid (by
        have h1 := HST.out.2.2.2.2.2
        have h2 : (wr.drew.alloc (.cells #[.int .i64 x] 3)).heap.size = wr.heap.size + 1 := by simp
        omega)
      have HDN := Lib.hid HST.out.2.1
      have yf := HD5.out.fr 1
      have y3 : ((wr.alloc (.cells #[.int .i64 x] 3)).alloc (.cells #[.slice (some ⟨wr.heap.size, 0, none⟩) 1 1] 25)).cell? ⟨wA.heap.size, 1, none⟩ = some (.slice da dn dc) := HD5.out.c1
      have y4 : (wr.alloc (.cells #[.int .i64 x] 3)).cell? ⟨wA.heap.size, 1, none⟩ = some (.slice da dn dc) := (HST.out.2.2.1.call (bel_alloc (Below.refl _ _) _)).c1
      go_region_law (refine step_own (w0 := wr.drew.alloc (.cells #[.int .i64 x] 3)) (B := u2.heap.size) (k := [x]) (kc := 1) rfl (.tmp 48) (.tmp 54) rfl (by simp [Act.eval]) HR5.out HS5.out HI5.out rfl rfl (by simp [Act.eval]) (by have := HDL.out; omega) ?_; intro xa xc w6 hd6 hg6; have HR6 := Lib.hid hd6; have HG6 := Lib.hid hg6; have HD6 := Lib.hid (HD5.out.grown hg6 (fun e => by have := HR5.out.blk e.symm; omega)); have z0 := HD6.out.c0; have z1 := HD6.out.c1; have zf := HD6.out.fr 1; clear hd6 hg6)
      all_goals
        have HB6 := Lib.hid ((bel_grown HB5'.out HG6.out (fun q e => by have := HR5.out.blk e; omega)).setCell (p := ⟨wA.heap.size, 1, none⟩) (Nat.le_refl _) (.slice xa (D.length + 1) xc))
        have HD7 := Lib.hid (HD6.out.put (u := .slice xa (D.length + 1) xc))
        have HR7 := Lib.hid (HR6.out.put (o := 1) (u := .slice xa (D.length + 1) xc) hlt2)
        have HS7 : Hid (u2.heap.size ≤ (w6.setCell ⟨wA.heap.size, 1, none⟩ (.slice xa (D.length + 1) xc)).heap.size) := by
          show _ ≤ _
          have h1 : ((wr.drew.alloc (.cells #[.int .i64 x] 3)).alloc (.cells #[.slice (some ⟨wr.drew.heap.size, 0, none⟩) 1 1] 25)).heap.size ≤ w6.heap.size := HG6.out.size
          have h2 := HS5.out
          have h3 : ((wr.drew.alloc (.cells #[.int .i64 x] 3)).alloc (.cells #[.slice (some ⟨wr.drew.heap.size, 0, none⟩) 1 1] 25)).heap.size = (wr.drew.alloc (.cells #[.int .i64 x] 3)).heap.size + 1 := by simp
          have h4 : (w6.setCell ⟨wA.heap.size, 1, none⟩ (.slice xa (D.length + 1) xc)).heap.size = w6.heap.size := by simp [World.setCell]
          omega
        go_wp2_with fail
        go_roundg (gk - 1)
      all_goals first
        | (have := HG2.out; have := HLT.out; omega; done)
        | exact ⟨j + 1, D ++ [[x]], D.length + 1, xc, xa, by first | rfl | (rw [HS.out.1]) | go_num, by have := HG2.out; have := HLT.out; omega, by have := HDL.out; omega, Lib.hid ⟨by rw [HST.out.1, ones_next HX.out, List.append_assoc], by simp, HD7.out, HR7.out, HB6.out, HS7.out⟩⟩
    · have g5 : decide (((j : Nat) : Int) < ((gn : Nat) : Int)) = false := decide_eq_false (by omega)
      have g6 : ¬ ((j : Nat) : Int) < ((gn : Nat) : Int) := by omega
      have HE : Hid (holdsC m D = false) := Lib.hid (by rw [HST.out.1, List.take_of_length_le (by have := HGN.out; omega)]; exact sound_no HF.out)
      clear hgk2 hlt2'
      go_wp2_with fail
      refine (holds_bel (v := v) HST.out.2.2.2.1.cls HST.out.2.1 HDL.out.2 (HM.out.keep HBX.out) HMN.out HZ4.out).mono ?_
      rintro e w7 ⟨rfl, hb⟩
      rw [HE.out]
      have HB7 := Lib.hid hb
      clear hb
      go_wp2_with fail
      refine (lives_any HA.out _).mono ?_
      rintro e w9 ⟨rfl, hb⟩
      have HBL := Lib.hid (bel_call HB7.out hb)
      clear hb
      go_wp2_with fail
      go_ret
      exact ⟨rfl, bel_call HBX.out HBL.out⟩
theorem rupSound_any (A : Api) {W : World} {al gl pl ml : Option Addr} {C : Cl} {g : List Int} {P : Cl} {m : List Bool} {v : Int} {n c gn gc pn pc mn mc : Nat} (h : ClsAt W al C) (hn : n = C.length) (hok : OkC C) (hnc : al = none → c = 0) (hgi : IntsAt W gl g) (hgn : gn = g.length) (hgI : ∀ l ∈ g, I64 l) (hP : ClsAt W pl P) (hpn : pn = P.length) (hokP : OkC P) (hm : BoolsAt W ml m) (hmn : mn = m.length) :
    Calls Try.prog 4 #[.agg #[.int .i64 v, .slice al n c], .slice gl gn gc, .slice pl pn pc, .slice ml mn mc] W fun e w => e = .returned (.bool true) ∧ Below W.heap.size W w := by
  cases hg : greatR C P with
  | true => exact snd_great A h hn hok hnc hgi hgn hgI hP hpn hokP hm hmn hg
  | false =>
    by_cases h1 : 30 < gn
    · exact snd_long A h hn hok hnc hgi hgn hgI hP hpn hokP hm hmn hg h1
    · by_cases h2 : 100 < mn
      · exact snd_wide A h hn hok hnc hgi hgn hgI hP hpn hokP hm hmn hg (by omega) h2
      · by_cases hf : checkP v C g P = 0
        · exact snd_go A h hn hok hnc hgi hgn hgI hP hpn hokP hm hmn hg (by omega) (by omega) hf
        · exact snd_not A h hn hok hnc hgi hgn hgI hP hpn hokP hm hmn hg (by omega) (by omega) hf
end Rp
end Go.Proofs.Ytmgkgbhkaoflhaa
