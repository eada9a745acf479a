/-
RupMore, walked over Api.
The row RupMore, over what the functions answer.
-/
import Derived.Test.YtmgkgbhkaoflhaaRpLawE
import Derived.Test.YtmgkgbhkaoflhaaRpLawF
import Derived.Test.YtmgkgbhkaoflhaaRpLawH
import Derived.Test.YtmgkgbhkaoflhaaRpLawI
import Derived.Test.YtmgkgbhkaoflhaaRpOpen
import Derived.SizedLaws
import Derived.Laws.IdiomArrays
import Derived.Deep.Slices
import Derived.Carry
namespace Go.Proofs.Ytmgkgbhkaoflhaa
open Go.RowKit
namespace Rp
open Cf
set_option maxHeartbeats 3200000
set_option maxRecDepth 100000

theorem rupMore_any (A : Api) {W : World} {al gl pl kl : Option Addr} {C : Cl} {g : List Int} {P : Cl} {T : List Int} {v z : Int} {n c gn gc pn pc tn tc : Nat} (h : ClsAt W al C) (hn : n = C.length) (hok : OkC C) (hnc : al = none → c = 0) (hgi : IntsAt W gl g) (hgn : gn = g.length) (hgI : ∀ l ∈ g, I64 l) (hgc : gl = none → gc = 0) (hP : ClsAt W pl P) (hpn : pn = P.length) (hokP : OkC P) (hpc : pl = none → pc = 0) (hT : IntsAt W kl T) (htn : tn = T.length) (hTI : ∀ l ∈ T, I64 l) (hz : I64 z) :
    Calls Try.prog 6 #[.agg #[.int .i64 v, .slice al n c], .slice gl gn gc, .slice pl pn pc, .slice kl tn tc, .int .i64 z] W fun e w => e = .returned (.bool true) ∧ Below W.heap.size W w := by
  cases hg : greatR C P with
  | true => exact mor_great A h hn hok hnc hgi hgn hgI hgc hP hpn hokP hpc hT htn hTI hz hg
  | false =>
    by_cases h1 : 30 < gn
    · exact mor_long A h hn hok hnc hgi hgn hgI hgc hP hpn hokP hpc hT htn hTI hz hg h1
    · by_cases h2 : 20 < tn
      · exact mor_wide A h hn hok hnc hgi hgn hgI hgc hP hpn hokP hpc hT htn hTI hz hg (by omega) h2
      · by_cases hf : checkP v C g P = 0
        · cases hm : mayC v (C ++ [T]) with
          | true =>
            cases hi : isL z v with
            | true =>
              by_cases he : C.length = 0
              · exact mor_mie A h hn hok hnc hgi hgn hgI hgc hP hpn hokP hpc hT htn hTI hz hg (by omega) (by omega) hf hm hi he
              · exact mor_mif A h hn hok hnc hgi hgn hgI hgc hP hpn hokP hpc hT htn hTI hz hg (by omega) (by omega) hf hm hi he
            | false =>
              by_cases he : C.length = 0
              · exact mor_moe A h hn hok hnc hgi hgn hgI hgc hP hpn hokP hpc hT htn hTI hz hg (by omega) (by omega) hf hm hi he
              · exact mor_mof A h hn hok hnc hgi hgn hgI hgc hP hpn hokP hpc hT htn hTI hz hg (by omega) (by omega) hf hm hi he
          | false =>
            cases hi : isL z v with
            | true =>
              by_cases he : C.length = 0
              · exact mor_nie A h hn hok hnc hgi hgn hgI hgc hP hpn hokP hpc hT htn hTI hz hg (by omega) (by omega) hf hm hi he
              · exact mor_nif A h hn hok hnc hgi hgn hgI hgc hP hpn hokP hpc hT htn hTI hz hg (by omega) (by omega) hf hm hi he
            | false =>
              by_cases he : C.length = 0
              · exact mor_noe A h hn hok hnc hgi hgn hgI hgc hP hpn hokP hpc hT htn hTI hz hg (by omega) (by omega) hf hm hi he
              · exact mor_nof A h hn hok hnc hgi hgn hgI hgc hP hpn hokP hpc hT htn hTI hz hg (by omega) (by omega) hf hm hi he
        · exact mor_not A h hn hok hnc hgi hgn hgI hgc hP hpn hokP hpc hT htn hTI hz hg (by omega) (by omega) hf
end Rp
end Go.Proofs.Ytmgkgbhkaoflhaa

namespace Go.Proofs.Ytmgkgbhkaoflhaa
open Go.ChangeShapes Go.WideShapes Go.ChangeAt Go.RowKit Go.Joins
namespace Rp
open Cf
set_option maxHeartbeats 1600000
set_option maxRecDepth 100000

theorem laidR2 : laidOutB Try.prog = true := by kernel_rfl
theorem rupMore_lifted (A : Api) (os : Os) (started : os.Started) (H : Type) (enc : TypeId × Value → H) :
    ReturnsInHanded {} Try.checked os 6 .any (Rows.rupMoreSpec.pre6 enc Try.prog Try.f6 Rows.rupMoreRow.domain false) (Rows.rupMoreSpec.post enc Try.prog Try.f6 false true false false) := by
  refine returnsInHanded_of_change_sized (C := Try.checked) Cf.own started (by kernel_rfl) Try.func6
    (ChangeSpec.witness6 (enc := enc) (C := Try.checked) false ⟨#[], #[.agg #[.int .i64 0, .slice none 0 0], .slice none 0 0, .slice none 0 0, .slice none 0 0, .int .i64 0], []⟩ 8 (by kernel_rfl) (by kernel_rfl) (by kernel_rfl) (by kernel_rfl)) ?_
  intro W base args ds gs before hval0 hW _ hsz0 _
  have hsz : (DataW.weightsEach Try.prog (Try.f6.params.toList ++ Rows.rupMoreSpec.plain.varTypes Try.prog) (ds ++ gs)).all (· ≤ reachBytes) = true := hsz0
  clear hsz0
  have hval : ∀ (j : Nat) t v, Try.f6.params[j]? = some t → args[j]? = some v → Value.okWide Try.prog W .any base t v := hval0
  have hW' := hW
  obtain ⟨p, q, hA0, hV, rfl, _, _⟩ := hW
  have hA : DataW.TrodAll enc Try.prog W 0 (fun _ => true) true Try.f6.params.toList args.toList ds p := hA0
  rw [Try.params6] at hA hval hsz
  obtain ⟨v0, vs0, d0, ds0, p0, q0, hargs, rfl, rfl, h0, r0⟩ := trodAll_cons hA
  obtain ⟨v1, vs1, d1, ds1, p1, q1, rfl, rfl, rfl, h1, r1⟩ := trodAll_cons r0
  obtain ⟨v2, vs2, d2, ds2, p2, q2, rfl, rfl, rfl, h2, r2⟩ := trodAll_cons r1
  obtain ⟨v3, vs3, d3, ds3, p3, q3, rfl, rfl, rfl, h3, r3⟩ := trodAll_cons r2
  obtain ⟨v4, vs4, d4, ds4, p4, q4, rfl, rfl, rfl, h4, r4⟩ := trodAll_cons r3
  obtain ⟨rfl, rfl, rfl⟩ := trodAll_nil r4
  obtain rfl : args = #[v0, v1, v2, v3, v4] := by cases args; simp_all
  obtain ⟨rfl, rfl⟩ := trodVars_none hV
  have hw0 : ∀ n ∈ d0.weights Try.prog 24, n ≤ reachBytes := fun n hn => by
    have h := List.all_eq_true.1 hsz n (by simp [DataW.weightsEach, hn])
    simpa using h
  have hw1 : ∀ n ∈ d1.weights Try.prog 25, n ≤ reachBytes := fun n hn => by
    have h := List.all_eq_true.1 hsz n (by simp [DataW.weightsEach, hn])
    simpa using h
  have hw2 : ∀ n ∈ d2.weights Try.prog 22, n ≤ reachBytes := fun n hn => by
    have h := List.all_eq_true.1 hsz n (by simp [DataW.weightsEach, hn])
    simpa using h
  have hw3 : ∀ n ∈ d3.weights Try.prog 25, n ≤ reachBytes := fun n hn => by
    have h := List.all_eq_true.1 hsz n (by simp [DataW.weightsEach, hn])
    simpa using h
  obtain ⟨x0, al0, cp0, C0, rfl, hx0, hC0, hok0, hnc0⟩ := open_cnf (hval 0 24 v0 rfl rfl) h0 hw0
  obtain ⟨al1, len1, cp1, rfl⟩ := okWide_slice Try.underlying25 (hval 1 25 v1 rfl rfl)
  obtain ⟨al2, len2, cp2, rfl⟩ := okWide_slice Try.underlying22 (hval 2 22 v2 rfl rfl)
  obtain ⟨al3, len3, cp3, rfl⟩ := okWide_slice Try.underlying25 (hval 3 25 v3 rfl rfl)
  obtain ⟨i4, rfl, rfl, rfl, w4⟩ := open_int Try.underlying3 (hval 4 3 v4 rfl rfl) h4
  have hnc1 := ints_cap h1
  obtain ⟨C1, hl1, hb1, hI1, hC1⟩ := open_ints h1 hw1
  obtain ⟨C2, hl2, hC2, hok2, hnc2⟩ := open_cls h2 hw2
  have hnc3 := ints_cap h3
  obtain ⟨C3, hl3, hb3, hI3, hC3⟩ := open_ints h3 hw3
  clear hA0 hval0
  simp only [List.append_nil] at hW'
  have hlt0 : ∀ x ∈ p0, x.block < W.heap.size := fun x hx => hW'.lt x (by simp [hx])
  have hlt1 : ∀ x ∈ p1, x.block < W.heap.size := fun x hx => hW'.lt x (by simp [hx])
  have hlt2 : ∀ x ∈ p2, x.block < W.heap.size := fun x hx => hW'.lt x (by simp [hx])
  have hlt3 : ∀ x ∈ p3, x.block < W.heap.size := fun x hx => hW'.lt x (by simp [hx])
  refine (rupMore_any A (c := cp0) (gc := cp1) (pc := cp2) (tc := cp3) hC0 rfl hok0 hnc0 hC1 hl1 hI1 hnc1 hC2 hl2 hok2 hnc2 hC3 hl3 hI3 (i64_of w4)).mono fun e W' ⟨he, hg⟩ => ?_
  subst he
  refine ⟨_, rfl, _, _, _, [], (p0 ++ (p1 ++ (p2 ++ (p3 ++ ([] ++ []))))), [], hW', ?_, ?_, rfl, hg.frame _, fun h => by cases h⟩
  · exact trodAll_mk1 (shut_bool Try.underlying4 _)
  · exact (trodAll_cons_mk (Below.trod laidR2 (by kernel_rfl) (of_decide_eq_true (by kernel_rfl)) h0 hg hlt0) (trodAll_cons_mk (Below.trod laidR2 (by kernel_rfl) (of_decide_eq_true (by kernel_rfl)) h1 hg hlt1) (trodAll_cons_mk (Below.trod laidR2 (by kernel_rfl) (of_decide_eq_true (by kernel_rfl)) h2 hg hlt2) (trodAll_cons_mk (Below.trod laidR2 (by kernel_rfl) (of_decide_eq_true (by kernel_rfl)) h3 hg hlt3) (trodAll_cons_mk (shut_int Try.underlying3 w4) trodAll_mk0)))))
theorem rupMore_row (A : Api) : Rows.RupMoreSaid :=
  OpenClaim.holds_of_wide 6 Try.f6 rfl rfl rfl rfl rfl rfl rfl ⟨rfl, rfl, rfl, rfl, rfl⟩ rfl rfl rfl rfl rfl (by kernel_rfl) Try.func6 (by kernel_rfl)
    (of_decide_eq_true (by kernel_rfl)) (by unfold Func.isWrapper; rw [if_neg (of_decide_eq_false (by kernel_rfl))]; exact ⟨rfl, rfl⟩)
    (fun os started H enc _ => rupMore_lifted A os started H enc)

end Rp
end Go.Proofs.Ytmgkgbhkaoflhaa
