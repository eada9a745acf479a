/-
  RupMore: what it appends; the ways that end early.
-/
import Derived.Test.YtmgkgbhkaoflhaaRpLawA
import Derived.Test.YtmgkgbhkaoflhaaRpRow
namespace Go.Proofs.Ytmgkgbhkaoflhaa
open Go.RowKit
namespace Rp
open Cf
set_option maxHeartbeats 3200000
set_option maxRecDepth 100000

theorem rmay_n {W : World} {al : Option Addr} {C : Cl} {v : Int} {n c : Nat} (h : ClsAt W al C) (hn : n = C.length) (hok : OkC C) :
    Calls Try.prog 14 #[.agg #[.int .i64 v, .slice al n c]] W fun e w => e = .returned (.bool (mayC v C)) ∧ Below W.heap.size W w := by
  subst hn
  exact rmay_any h hok
theorem drow_none {W w : World} {B n c : Nat} {a : Option Addr} {D : Cl} (h : DRow W B (.slice a n c) D w) (ha : a = none) : c = 0 := by
  obtain ⟨xs, ⟨_, ⟨h1, h2⟩ | ⟨g, cap, cur, hv, _⟩⟩, _⟩ := h.row
  · injection h1
  · injection hv with e1; rw [ha] at e1; cases e1
theorem flat_snoc {C : Cl} {k : List Int} : (C ++ [k]).flatten.length = C.flatten.length + k.length := by
  rw [List.flatten_append, List.length_append]; simp
/-- 'a = append(a, b...)', of none. -/
theorem grow_all {W w : World} {T : List Int} {al : Option Addr} {len c : Nat} {ops : Array Oper} {rest : List Oper} {o : Oper} {a : Act} {Q : Exit → Act → World → Prop} (hgd : o.guard = none) (s x : Operand)
    (ho : o.op = .call { callee := .builtin .append, args := #[s, x], argTypes := #[25, 25] }) (hs : a.eval s = .slice none 0 0) (h : IntsAt w al T) (hlen : len = T.length) (hn : al = none → c = 0) (hb : Below W.heap.size W w) (hx : a.eval x = .slice al len c) (hl : len ≤ 1000000000)
    (cont : ∀ a' c' w', GrowI W (.slice a' T.length c') T w' → wpList Try.prog ops Q rest (a.put o.dst (.slice a' T.length c')) w') : wpList Try.prog ops Q (o :: rest) a w := by
  obtain ⟨i0, hinfo, hi0, hi1, hi2⟩ := infos info_int
  subst hlen
  cases al with
  | none =>
    have hc := hn rfl
    have hT : T = [] := by
      rcases h with h | ⟨_, _, h, _⟩
      · exact h
      · cases h
    subst hc
    subst hT
    exact wpList_append_own_none hgd s x 25 ho W.heap.size 3 i0 1 Try.underlying25 hinfo (.slice none 0 0) 0 [] hs (World.ownsRow_nil _ _ _ _) hx (cont none 0 w (GrowI.zero hb))
  | some ad =>
    have hxc : ∀ (j : Nat) (u : Value), (rowI T)[j]? = some u → w.cell? (ad.add j) = some u := by
      intro j u hj
      rcases h with h | ⟨b, o, e, hlt, hc⟩
      · subst h; simp [rowI] at hj
      · injection e with e
        subst e
        have e : (⟨b, o, none⟩ : Addr).add j = ⟨b, o + j, none⟩ := by
          unfold Addr.add
          split <;> simp_all
        rw [e]
        unfold rowI at hj
        rw [List.getElem?_map] at hj
        cases hT : T[j]? with
        | none => rw [hT] at hj; cases hj
        | some y =>
          rw [hT] at hj
          injection hj with hj
          rw [← hj]
          exact hc j y hT
    refine wpList_append_own_at _ hgd s x 25 ho W.heap.size 3 i0 (.int .i64 0) 1 8 Try.underlying25 hinfo hi0 hi1 hi2 rfl (by decide) (.slice none 0 0) 0 [] hs (World.ownsRow_nil _ _ _ _) ad T.length c (rowI T) hx (by simp [rowI]) hxc (by intro u hu; obtain ⟨y, _, rfl⟩ := List.mem_map.1 hu; rfl) (by unfold maxLen; omega) (by omega) hb.size ?_
    intro v' w2 hrow hgr _ _
    have hG : GrowI W v' T w2 := ⟨by simpa using hrow, bel_grown hb hgr (fun i hi => by cases hi)⟩
    obtain ⟨a', c', rfl⟩ := hG.shape
    exact cont a' c' w2 hG
theorem mor_great (A : Api) {W : World} {al gl pl kl : Option Addr} {C : Cl} {g : List Int} {P : Cl} {T : List Int} {v z : Int} {n c gn gc pn pc tn tc : Nat} (h : ClsAt W al C) (hn : n = C.length) (hok : OkC C) (hnc : al = none → c = 0) (hgi : IntsAt W gl g) (hgn : gn = g.length) (hgI : ∀ l ∈ g, I64 l) (hgc : gl = none → gc = 0) (hP : ClsAt W pl P) (hpn : pn = P.length) (hokP : OkC P) (hpc : pl = none → pc = 0) (hT : IntsAt W kl T) (htn : tn = T.length) (hTI : ∀ l ∈ T, I64 l) (hz : I64 z) (hg : greatR C P = true) :
    Calls Try.prog 6 #[.agg #[.int .i64 v, .slice al n c], .slice gl gn gc, .slice pl pn pc, .slice kl tn tc, .int .i64 z] W fun e w => e = .returned (.bool true) ∧ Below W.heap.size W w := by
  have HA := Lib.hid A
  have HC := Lib.hid h
  have HN := Lib.hid hn
  have HOK := Lib.hid hok
  have HNC := Lib.hid hnc
  have HGI := Lib.hid hgi
  have HGN := Lib.hid hgn
  have HGI6 := Lib.hid hgI
  have HGC := Lib.hid hgc
  have HP := Lib.hid hP
  have HPN := Lib.hid hpn
  have HOKP := Lib.hid hokP
  have HPC := Lib.hid hpc
  have HT := Lib.hid hT
  have HTN := Lib.hid htn
  have HTI := Lib.hid hTI
  have HZ := Lib.hid hz
  have HG := Lib.hid hg
  clear A h hn hok hnc hgi hgn hgI hgc hP hpn hokP hpc hT htn hTI hz hg
  go_enter Try.func6, Try.ntmps6
  go_wp2_with fail
  have c0 := new_cell W #[.int .i64 v, .slice al n c] 24 0
  have c1 := new_cell W #[.int .i64 v, .slice al n c] 24 1
  have hlt : W.heap.size < (W.alloc (.cells #[.int .i64 v, .slice al n c] 24)).heap.size := by simp
  have HBW := Lib.hid (bel_alloc (Below.refl W.heap.size W) (.cells #[.int .i64 v, .slice al n c] 24))
  generalize W.alloc (.cells #[.int .i64 v, .slice al n c] 24) = U at *
  have c0 : U.cell? ⟨W.heap.size, 0, none⟩ = some (.int .i64 v) := c0
  have c1 : U.cell? ⟨W.heap.size, 1, none⟩ = some (.slice al n c) := c1
  have HX0 := Lib.hid c0
  have HX1 := Lib.hid c1
  have HB0 := Lib.hid (Below.refl U.heap.size U)
  refine (great_bel (HC.out.keep (bel_call HBW.out HB0.out)) HN.out HOK.out (HP.out.keep (bel_call HBW.out HB0.out)) HPN.out HOKP.out).mono ?_
  rintro e w1 ⟨rfl, hb⟩
  rw [HG.out]
  have HB1 := Lib.hid (bel_call HB0.out hb)
  clear hb
  clear c0 c1
  have c0 := (HB1.out.cell (p := ⟨W.heap.size, 0, none⟩) hlt).trans HX0.out
  have c1 := (HB1.out.cell (p := ⟨W.heap.size, 1, none⟩) hlt).trans HX1.out
  go_wp2_with fail
  refine (lives_any HA.out _).mono ?_
  rintro e w9 ⟨rfl, hb⟩
  have HBL := Lib.hid (bel_call HB1.out hb)
  clear hb
  go_wp2_with fail
  go_ret
  exact ⟨rfl, bel_call HBW.out HBL.out⟩
theorem mor_long (A : Api) {W : World} {al gl pl kl : Option Addr} {C : Cl} {g : List Int} {P : Cl} {T : List Int} {v z : Int} {n c gn gc pn pc tn tc : Nat} (h : ClsAt W al C) (hn : n = C.length) (hok : OkC C) (hnc : al = none → c = 0) (hgi : IntsAt W gl g) (hgn : gn = g.length) (hgI : ∀ l ∈ g, I64 l) (hgc : gl = none → gc = 0) (hP : ClsAt W pl P) (hpn : pn = P.length) (hokP : OkC P) (hpc : pl = none → pc = 0) (hT : IntsAt W kl T) (htn : tn = T.length) (hTI : ∀ l ∈ T, I64 l) (hz : I64 z) (hg : greatR C P = false) (hl : 30 < gn) :
    Calls Try.prog 6 #[.agg #[.int .i64 v, .slice al n c], .slice gl gn gc, .slice pl pn pc, .slice kl tn tc, .int .i64 z] W fun e w => e = .returned (.bool true) ∧ Below W.heap.size W w := by
  have HA := Lib.hid A
  have HC := Lib.hid h
  have HN := Lib.hid hn
  have HOK := Lib.hid hok
  have HNC := Lib.hid hnc
  have HGI := Lib.hid hgi
  have HGN := Lib.hid hgn
  have HGI6 := Lib.hid hgI
  have HGC := Lib.hid hgc
  have HP := Lib.hid hP
  have HPN := Lib.hid hpn
  have HOKP := Lib.hid hokP
  have HPC := Lib.hid hpc
  have HT := Lib.hid hT
  have HTN := Lib.hid htn
  have HTI := Lib.hid hTI
  have HZ := Lib.hid hz
  have HG := Lib.hid hg
  have g1 : decide (30 < ((gn : Nat) : Int)) = true := decide_eq_true (by omega)
  have g2 : 30 < ((gn : Nat) : Int) := by omega
  clear A h hn hok hnc hgi hgn hgI hgc hP hpn hokP hpc hT htn hTI hz hg hl
  go_enter Try.func6, Try.ntmps6
  go_wp2_with fail
  have c0 := new_cell W #[.int .i64 v, .slice al n c] 24 0
  have c1 := new_cell W #[.int .i64 v, .slice al n c] 24 1
  have hlt : W.heap.size < (W.alloc (.cells #[.int .i64 v, .slice al n c] 24)).heap.size := by simp
  have HBW := Lib.hid (bel_alloc (Below.refl W.heap.size W) (.cells #[.int .i64 v, .slice al n c] 24))
  generalize W.alloc (.cells #[.int .i64 v, .slice al n c] 24) = U at *
  have c0 : U.cell? ⟨W.heap.size, 0, none⟩ = some (.int .i64 v) := c0
  have c1 : U.cell? ⟨W.heap.size, 1, none⟩ = some (.slice al n c) := c1
  have HX0 := Lib.hid c0
  have HX1 := Lib.hid c1
  have HB0 := Lib.hid (Below.refl U.heap.size U)
  refine (great_bel (HC.out.keep (bel_call HBW.out HB0.out)) HN.out HOK.out (HP.out.keep (bel_call HBW.out HB0.out)) HPN.out HOKP.out).mono ?_
  rintro e w1 ⟨rfl, hb⟩
  rw [HG.out]
  have HB1 := Lib.hid (bel_call HB0.out hb)
  clear hb
  clear c0 c1
  have c0 := (HB1.out.cell (p := ⟨W.heap.size, 0, none⟩) hlt).trans HX0.out
  have c1 := (HB1.out.cell (p := ⟨W.heap.size, 1, none⟩) hlt).trans HX1.out
  go_wp2_with fail
  refine (lives_any HA.out _).mono ?_
  rintro e w9 ⟨rfl, hb⟩
  have HBL := Lib.hid (bel_call HB1.out hb)
  clear hb
  go_wp2_with fail
  go_ret
  exact ⟨rfl, bel_call HBW.out HBL.out⟩
theorem mor_wide (A : Api) {W : World} {al gl pl kl : Option Addr} {C : Cl} {g : List Int} {P : Cl} {T : List Int} {v z : Int} {n c gn gc pn pc tn tc : Nat} (h : ClsAt W al C) (hn : n = C.length) (hok : OkC C) (hnc : al = none → c = 0) (hgi : IntsAt W gl g) (hgn : gn = g.length) (hgI : ∀ l ∈ g, I64 l) (hgc : gl = none → gc = 0) (hP : ClsAt W pl P) (hpn : pn = P.length) (hokP : OkC P) (hpc : pl = none → pc = 0) (hT : IntsAt W kl T) (htn : tn = T.length) (hTI : ∀ l ∈ T, I64 l) (hz : I64 z) (hg : greatR C P = false) (hl : gn ≤ 30) (hl2 : 20 < tn) :
    Calls Try.prog 6 #[.agg #[.int .i64 v, .slice al n c], .slice gl gn gc, .slice pl pn pc, .slice kl tn tc, .int .i64 z] W fun e w => e = .returned (.bool true) ∧ Below W.heap.size W w := by
  have HA := Lib.hid A
  have HC := Lib.hid h
  have HN := Lib.hid hn
  have HOK := Lib.hid hok
  have HNC := Lib.hid hnc
  have HGI := Lib.hid hgi
  have HGN := Lib.hid hgn
  have HGI6 := Lib.hid hgI
  have HGC := Lib.hid hgc
  have HP := Lib.hid hP
  have HPN := Lib.hid hpn
  have HOKP := Lib.hid hokP
  have HPC := Lib.hid hpc
  have HT := Lib.hid hT
  have HTN := Lib.hid htn
  have HTI := Lib.hid hTI
  have HZ := Lib.hid hz
  have HG := Lib.hid hg
  have g1 : decide (30 < ((gn : Nat) : Int)) = false := decide_eq_false (by omega)
  have g2 : ¬ 30 < ((gn : Nat) : Int) := by omega
  have g3 : decide (20 < ((tn : Nat) : Int)) = true := decide_eq_true (by omega)
  have g4 : 20 < ((tn : Nat) : Int) := by omega
  clear A h hn hok hnc hgi hgn hgI hgc hP hpn hokP hpc hT htn hTI hz hg hl hl2
  go_enter Try.func6, Try.ntmps6
  go_wp2_with fail
  have c0 := new_cell W #[.int .i64 v, .slice al n c] 24 0
  have c1 := new_cell W #[.int .i64 v, .slice al n c] 24 1
  have hlt : W.heap.size < (W.alloc (.cells #[.int .i64 v, .slice al n c] 24)).heap.size := by simp
  have HBW := Lib.hid (bel_alloc (Below.refl W.heap.size W) (.cells #[.int .i64 v, .slice al n c] 24))
  generalize W.alloc (.cells #[.int .i64 v, .slice al n c] 24) = U at *
  have c0 : U.cell? ⟨W.heap.size, 0, none⟩ = some (.int .i64 v) := c0
  have c1 : U.cell? ⟨W.heap.size, 1, none⟩ = some (.slice al n c) := c1
  have HX0 := Lib.hid c0
  have HX1 := Lib.hid c1
  have HB0 := Lib.hid (Below.refl U.heap.size U)
  refine (great_bel (HC.out.keep (bel_call HBW.out HB0.out)) HN.out HOK.out (HP.out.keep (bel_call HBW.out HB0.out)) HPN.out HOKP.out).mono ?_
  rintro e w1 ⟨rfl, hb⟩
  rw [HG.out]
  have HB1 := Lib.hid (bel_call HB0.out hb)
  clear hb
  clear c0 c1
  have c0 := (HB1.out.cell (p := ⟨W.heap.size, 0, none⟩) hlt).trans HX0.out
  have c1 := (HB1.out.cell (p := ⟨W.heap.size, 1, none⟩) hlt).trans HX1.out
  go_wp2_with fail
  refine (lives_any HA.out _).mono ?_
  rintro e w9 ⟨rfl, hb⟩
  have HBL := Lib.hid (bel_call HB1.out hb)
  clear hb
  go_wp2_with fail
  go_ret
  exact ⟨rfl, bel_call HBW.out HBL.out⟩
theorem mor_not (A : Api) {W : World} {al gl pl kl : Option Addr} {C : Cl} {g : List Int} {P : Cl} {T : List Int} {v z : Int} {n c gn gc pn pc tn tc : Nat} (h : ClsAt W al C) (hn : n = C.length) (hok : OkC C) (hnc : al = none → c = 0) (hgi : IntsAt W gl g) (hgn : gn = g.length) (hgI : ∀ l ∈ g, I64 l) (hgc : gl = none → gc = 0) (hP : ClsAt W pl P) (hpn : pn = P.length) (hokP : OkC P) (hpc : pl = none → pc = 0) (hT : IntsAt W kl T) (htn : tn = T.length) (hTI : ∀ l ∈ T, I64 l) (hz : I64 z) (hg : greatR C P = false) (hl : gn ≤ 30) (hl2 : tn ≤ 20) (hf : ¬ checkP v C g P = 0) :
    Calls Try.prog 6 #[.agg #[.int .i64 v, .slice al n c], .slice gl gn gc, .slice pl pn pc, .slice kl tn tc, .int .i64 z] W fun e w => e = .returned (.bool true) ∧ Below W.heap.size W w := by
  have HA := Lib.hid A
  have HC := Lib.hid h
  have HN := Lib.hid hn
  have HOK := Lib.hid hok
  have HNC := Lib.hid hnc
  have HGI := Lib.hid hgi
  have HGN := Lib.hid hgn
  have HGI6 := Lib.hid hgI
  have HGC := Lib.hid hgc
  have HP := Lib.hid hP
  have HPN := Lib.hid hpn
  have HOKP := Lib.hid hokP
  have HPC := Lib.hid hpc
  have HT := Lib.hid hT
  have HTN := Lib.hid htn
  have HTI := Lib.hid hTI
  have HZ := Lib.hid hz
  have g1 : decide (30 < ((gn : Nat) : Int)) = false := decide_eq_false (by omega)
  have g2 : ¬ 30 < ((gn : Nat) : Int) := by omega
  have g3 : decide (20 < ((tn : Nat) : Int)) = false := decide_eq_false (by omega)
  have g4 : ¬ 20 < ((tn : Nat) : Int) := by omega
  have HG := Lib.hid hg
  have HSZ : Hid (C.flatten.length + P.flatten.length ≤ 300 ∧ C.length + P.length ≤ 100 ∧ gn ≤ 30 ∧ tn ≤ 20) := Lib.hid (by have := greatR_no hg; omega)
  clear A h hn hok hnc hgi hgn hgI hgc hP hpn hokP hpc hT htn hTI hz hg hl hl2
  go_enter Try.func6, Try.ntmps6
  go_wp2_with fail
  have c0 := new_cell W #[.int .i64 v, .slice al n c] 24 0
  have c1 := new_cell W #[.int .i64 v, .slice al n c] 24 1
  have hlt : W.heap.size < (W.alloc (.cells #[.int .i64 v, .slice al n c] 24)).heap.size := by simp
  have HBW := Lib.hid (bel_alloc (Below.refl W.heap.size W) (.cells #[.int .i64 v, .slice al n c] 24))
  generalize W.alloc (.cells #[.int .i64 v, .slice al n c] 24) = U at *
  have c0 : U.cell? ⟨W.heap.size, 0, none⟩ = some (.int .i64 v) := c0
  have c1 : U.cell? ⟨W.heap.size, 1, none⟩ = some (.slice al n c) := c1
  have HX0 := Lib.hid c0
  have HX1 := Lib.hid c1
  have HB0 := Lib.hid (Below.refl U.heap.size U)
  refine (great_bel (HC.out.keep (bel_call HBW.out HB0.out)) HN.out HOK.out (HP.out.keep (bel_call HBW.out HB0.out)) HPN.out HOKP.out).mono ?_
  rintro e w1 ⟨rfl, hb⟩
  rw [HG.out]
  have HB1 := Lib.hid (bel_call HB0.out hb)
  clear hb
  clear c0 c1
  have c0 := (HB1.out.cell (p := ⟨W.heap.size, 0, none⟩) hlt).trans HX0.out
  have c1 := (HB1.out.cell (p := ⟨W.heap.size, 1, none⟩) hlt).trans HX1.out
  go_wp2_with fail
  refine (HA.out.check _ _ _ _ C g P _ n c gn gc pn pc (HC.out.keep (bel_call HBW.out HB1.out)) HN.out HOK.out HNC.out (HGI.out.keep (bel_call HBW.out HB1.out)) HGN.out HGI6.out (HP.out.keep (bel_call HBW.out HB1.out)) HPN.out HOKP.out (by have := HSZ.out; omega) (by have := HSZ.out; omega) (by have := HSZ.out; omega)).mono ?_
  rintro e w2 ⟨rfl, hb⟩
  generalize checkP v C g P = ck at hf ⊢
  have g5 : decide (ck = 0) = false := decide_eq_false hf
  have g6 : (ck != 0) = true := by simpa using hf
  have HB2 := Lib.hid (bel_call HB1.out hb)
  clear hb
  clear c0 c1
  have c0 := (HB2.out.cell (p := ⟨W.heap.size, 0, none⟩) hlt).trans HX0.out
  have c1 := (HB2.out.cell (p := ⟨W.heap.size, 1, none⟩) hlt).trans HX1.out
  go_wp2_with fail
  refine (lives_any HA.out _).mono ?_
  rintro e w9 ⟨rfl, hb⟩
  have HBL := Lib.hid (bel_call HB2.out hb)
  clear hb
  go_wp2_with fail
  go_ret
  exact ⟨rfl, bel_call HBW.out HBL.out⟩
end Rp
end Go.Proofs.Ytmgkgbhkaoflhaa
