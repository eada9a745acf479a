/-
  What the program's functions answer (Api); the statements' own trial.
-/
import Derived.Test.YtmgkgbhkaoflhaaRpCheck
import Derived.Test.YtmgkgbhkaoflhaaRpGreat
namespace Go.Proofs.Ytmgkgbhkaoflhaa
open Go.RowKit
namespace Rp
open Cf
set_option maxHeartbeats 3200000
set_option maxRecDepth 100000

/-- What the program's functions answer. -/
structure Api : Prop where
  check : ∀ (W : World) (al gl pl : Option Addr) (C : Cl) (g : List Int) (P : Cl) (v : Int) (n c gn gc pn pc : Nat), ClsAt W al C → n = C.length → OkC C → (al = none → c = 0) → IntsAt W gl g → gn = g.length → (∀ l ∈ g, I64 l) → ClsAt W pl P → pn = P.length → OkC P →
    C.flatten.length + P.flatten.length ≤ 1000 → C.length + P.length ≤ 1000 → gn ≤ 100 →
    Calls Try.prog 9 #[.agg #[.int .i64 v, .slice al n c], .slice gl gn gc, .slice pl pn pc] W fun e w => e = .returned (.int .i64 (checkP v C g P)) ∧ Below W.heap.size W w
  follows : ∀ (W : World) (al kl : Option Addr) (C : Cl) (T : List Int) (v : Int) (n c len kc : Nat), ClsAt W al C → n = C.length → OkC C → (al = none → c = 0) → IntsAt W kl T → len = T.length → (∀ l ∈ T, I64 l) → C.flatten.length ≤ 1000 → n ≤ 1000 → len ≤ 100 →
    Calls Try.prog 11 #[.agg #[.int .i64 v, .slice al n c], .slice kl len kc] W fun e w => e = .returned (.bool (followsP v C T)) ∧ Below W.heap.size W w
theorem build_vs (w : World) (v : Int) (a : Option Addr) (k l : Nat) : (Instr.build 24 #[(0, .int .i64 v), (1, .slice a k l)]).run Try.prog w = .ok (.agg #[.int .i64 v, .slice a k l]) w := run_build w _ _ _ (by kernel_rfl)
def four : Cl := [[1, 2], [-1, 2], [1, -2], [-1, -2]]
theorem four_ok : OkC four := ⟨by decide, by decide, by unfold four I64; decide⟩
theorem four_a : checkP 2 four [] [[2]] = 0 := by decide +kernel
theorem four_b : checkP 2 four [] [] = 5 := by decide +kernel
theorem four_c : checkP 2 four [3] [] = 2 := by decide +kernel
theorem four_d : followsP 2 four [2] = true := by decide +kernel
theorem four_e : followsP 2 four [] = false := by decide +kernel
theorem ints_one {W : World} {x : Int} : IntsAt (W.alloc (.cells #[.int .i64 x] 3)) (some ⟨W.heap.size, 0, none⟩) [x] := by
  refine .inr ⟨W.heap.size, 0, rfl, by simp, fun j v hj => ?_⟩
  match j, hj with
  | 0, hj => simp at hj; subst hj; simp
  | j + 1, hj => simp at hj
theorem ints_two {W : World} {x y : Int} : IntsAt (W.alloc (.cells #[.int .i64 x, .int .i64 y] 3)) (some ⟨W.heap.size, 0, none⟩) [x, y] := by
  refine .inr ⟨W.heap.size, 0, rfl, by simp, fun j v hj => ?_⟩
  match j, hj with
  | 0, hj => simp at hj; subst hj; simp
  | 1, hj => simp at hj; subst hj; simp
  | j + 2, hj => simp at hj
theorem cls_one {W : World} {kal : Option Addr} {k : List Int} {kn kc : Nat} (h : IntsAt W kal k) (hk : kn = k.length) : ClsAt (W.alloc (.cells #[.slice kal kn kc] 25)) (some ⟨W.heap.size, 0, none⟩) [k] := by
  subst hk
  refine .inr ⟨W.heap.size, 0, rfl, by simp, fun j v hj => ?_⟩
  match j, hj with
  | 0, hj => simp at hj; subst hj; exact ⟨kal, kc, by simp, h.keep (bel_alloc (Below.refl _ _) _)⟩
  | j + 1, hj => simp at hj
theorem ok_two : OkC [[2]] := ⟨by decide, by decide, by unfold I64; decide⟩
theorem ok_nil : OkC [] := ⟨by decide, fun k hk => by simp at hk, fun k hk => by simp at hk⟩
def fourW (W : World) : World := ((((W.alloc (.cells #[.int .i64 1, .int .i64 2] 3)).alloc (.cells #[.int .i64 (-1), .int .i64 2] 3)).alloc (.cells #[.int .i64 1, .int .i64 (-2)] 3)).alloc (.cells #[.int .i64 (-1), .int .i64 (-2)] 3)).alloc (.cells #[.slice (some ⟨W.heap.size, 0, none⟩) 2 2, .slice (some ⟨W.heap.size + 1, 0, none⟩) 2 2, .slice (some ⟨W.heap.size + 1 + 1, 0, none⟩) 2 2, .slice (some ⟨W.heap.size + 1 + 1 + 1, 0, none⟩) 2 2] 25)
theorem cls_four (W : World) : ClsAt (fourW W) (some ⟨W.heap.size + 1 + 1 + 1 + 1, 0, none⟩) four ∧ Below W.heap.size W (fourW W) ∧ (fourW W).heap.size = W.heap.size + 1 + 1 + 1 + 1 + 1 := by
  have b1 := bel_alloc (Below.refl W.heap.size W) (.cells #[.int .i64 1, .int .i64 2] 3)
  have i1 := ints_two (W := W) (x := 1) (y := 2)
  have s1 : (W.alloc (.cells #[.int .i64 1, .int .i64 2] 3)).heap.size = W.heap.size + 1 := by simp
  unfold fourW
  generalize W.alloc (.cells #[.int .i64 1, .int .i64 2] 3) = W1 at *
  have b2 := bel_alloc (Below.refl W1.heap.size W1) (.cells #[.int .i64 (-1), .int .i64 2] 3)
  have i2 := ints_two (W := W1) (x := -1) (y := 2)
  have s2 : (W1.alloc (.cells #[.int .i64 (-1), .int .i64 2] 3)).heap.size = W.heap.size + 1 + 1 := by simp [s1]
  generalize W1.alloc (.cells #[.int .i64 (-1), .int .i64 2] 3) = W2 at *
  have b3 := bel_alloc (Below.refl W2.heap.size W2) (.cells #[.int .i64 1, .int .i64 (-2)] 3)
  have i3 := ints_two (W := W2) (x := 1) (y := -2)
  have s3 : (W2.alloc (.cells #[.int .i64 1, .int .i64 (-2)] 3)).heap.size = W.heap.size + 1 + 1 + 1 := by simp [s2]
  generalize W2.alloc (.cells #[.int .i64 1, .int .i64 (-2)] 3) = W3 at *
  have b4 := bel_alloc (Below.refl W3.heap.size W3) (.cells #[.int .i64 (-1), .int .i64 (-2)] 3)
  have i4 := ints_two (W := W3) (x := -1) (y := -2)
  have s4 : (W3.alloc (.cells #[.int .i64 (-1), .int .i64 (-2)] 3)).heap.size = W.heap.size + 1 + 1 + 1 + 1 := by simp [s3]
  generalize W3.alloc (.cells #[.int .i64 (-1), .int .i64 (-2)] 3) = W4 at *
  have b5 := bel_alloc (Below.refl W4.heap.size W4) (.cells #[.slice (some ⟨W.heap.size, 0, none⟩) 2 2, .slice (some ⟨W.heap.size + 1, 0, none⟩) 2 2, .slice (some ⟨W.heap.size + 1 + 1, 0, none⟩) 2 2, .slice (some ⟨W.heap.size + 1 + 1 + 1, 0, none⟩) 2 2] 25)
  rw [s1] at i2
  rw [s2] at i3
  rw [s3] at i4
  refine ⟨.inr ⟨W.heap.size + 1 + 1 + 1 + 1, 0, rfl, by simp [s4], fun j k hj => ?_⟩, bel_call (bel_call (bel_call (bel_call b1 b2) b3) b4) b5, by simp [s4]⟩
  have hn := fun j => new_cell W4 #[.slice (some ⟨W.heap.size, 0, none⟩) 2 2, .slice (some ⟨W.heap.size + 1, 0, none⟩) 2 2, .slice (some ⟨W.heap.size + 1 + 1, 0, none⟩) 2 2, .slice (some ⟨W.heap.size + 1 + 1 + 1, 0, none⟩) 2 2] 25 j
  rw [s4] at hn
  match j, hj with
  | 0, hj => simp [four] at hj; subst hj; exact ⟨_, _, (hn 0).trans rfl, (((i1.keep b2).keep b3).keep b4).keep b5⟩
  | 1, hj => simp [four] at hj; subst hj; exact ⟨_, _, (hn 1).trans rfl, ((i2.keep b3).keep b4).keep b5⟩
  | 2, hj => simp [four] at hj; subst hj; exact ⟨_, _, (hn 2).trans rfl, (i3.keep b4).keep b5⟩
  | 3, hj => simp [four] at hj; subst hj; exact ⟨_, _, (hn 3).trans rfl, i4.keep b5⟩
  | j + 4, hj => simp [four] at hj
theorem lives_any (A : Api) (W : World) : Calls Try.prog 8 #[] W fun e w => e = .returned (.bool true) ∧ Below W.heap.size W w := by
  have HA := Lib.hid A
  have hb := build_vs
  clear A
  go_enter Try.func8, Try.ntmps8
  go_upto_region 2 with fail
  change Code.wp _ _ _ _ ((fourW W).alloc (.cells #[.int .i64 2, .slice (some ⟨W.heap.size + 1 + 1 + 1 + 1, 0, none⟩) 4 4] 24))
  obtain ⟨f1, f2, f3⟩ := cls_four W
  have hk := bel_alloc (Below.refl (fourW W).heap.size (fourW W)) (.cells #[.int .i64 2, .slice (some ⟨W.heap.size + 1 + 1 + 1 + 1, 0, none⟩) 4 4] 24)
  have c0 := new_cell (fourW W) #[.int .i64 2, .slice (some ⟨W.heap.size + 1 + 1 + 1 + 1, 0, none⟩) 4 4] 24 0
  have c1 := new_cell (fourW W) #[.int .i64 2, .slice (some ⟨W.heap.size + 1 + 1 + 1 + 1, 0, none⟩) 4 4] 24 1
  have hlt : (fourW W).heap.size < ((fourW W).alloc (.cells #[.int .i64 2, .slice (some ⟨W.heap.size + 1 + 1 + 1 + 1, 0, none⟩) 4 4] 24)).heap.size := by simp
  have HC := Lib.hid (f1.keep hk)
  have HB := Lib.hid (bel_call f2 hk)
  rw [f3] at c0 c1 hlt
  clear f1 f2 f3 hk
  generalize (fourW W).alloc (.cells #[.int .i64 2, .slice (some ⟨W.heap.size + 1 + 1 + 1 + 1, 0, none⟩) 4 4] 24) = U at *
  generalize W.heap.size + 1 + 1 + 1 + 1 + 1 = b5 at *
  generalize W.heap.size + 1 + 1 + 1 + 1 = b4 at *
  have c0 : U.cell? ⟨b5, 0, none⟩ = some (.int .i64 2) := c0
  have c1 : U.cell? ⟨b5, 1, none⟩ = some (.slice (some ⟨b4, 0, none⟩) 4 4) := c1
  go_wp2_with fail
  have HU1 : Hid (Below U.heap.size U ((U.alloc (.cells #[.int .i64 2] 3)).alloc (.cells #[.slice (some ⟨U.heap.size, 0, none⟩) 1 1] 25))) := Lib.hid (bel_alloc (bel_alloc (Below.refl _ _) _) _)
  have HP1 : Hid (ClsAt ((U.alloc (.cells #[.int .i64 2] 3)).alloc (.cells #[.slice (some ⟨U.heap.size, 0, none⟩) 1 1] 25)) (some ⟨U.heap.size + 1, 0, none⟩) [[2]]) := Lib.hid (by
    have := cls_one (kn := 1) (kc := 1) (ints_one (W := U) (x := 2)) rfl
    rw [show (U.alloc (.cells #[.int .i64 2] 3)).heap.size = U.heap.size + 1 by simp] at this
    exact this)
  refine (HA.out.check _ _ none _ four [] [[2]] 2 4 4 0 0 1 1 (HC.out.keep HU1.out) rfl four_ok (fun e => by cases e) (.inl rfl) rfl (fun l hl => by cases hl) HP1.out rfl ok_two (by decide) (by decide) (by decide)).mono ?_
  rintro e w1 ⟨rfl, hb1⟩
  rw [four_a]
  have HB1 := Lib.hid (bel_call HU1.out hb1)
  have a0 := (HB1.out.cell (p := ⟨b5, 0, none⟩) hlt).trans c0
  have a1 := (HB1.out.cell (p := ⟨b5, 1, none⟩) hlt).trans c1
  clear hb1 c0 c1 HU1 HP1
  go_wp2_with fail
  refine (HA.out.check _ _ none none four [] [] 2 4 4 0 0 0 0 (HC.out.keep HB1.out) rfl four_ok (fun e => by cases e) (.inl rfl) rfl (fun l hl => by cases hl) (.inl rfl) rfl ok_nil (by decide) (by decide) (by decide)).mono ?_
  rintro e w2 ⟨rfl, hb2⟩
  rw [four_b]
  have HB2 := Lib.hid (bel_call HB1.out hb2)
  have d0 := (HB2.out.cell (p := ⟨b5, 0, none⟩) hlt).trans ((HB1.out.cell (p := ⟨b5, 0, none⟩) hlt).symm.trans a0)
  have d1 := (HB2.out.cell (p := ⟨b5, 1, none⟩) hlt).trans ((HB1.out.cell (p := ⟨b5, 1, none⟩) hlt).symm.trans a1)
  clear hb2 a0 a1
  go_wp2_with fail
  have HB3 := Lib.hid (bel_alloc HB2.out (.cells #[.int .i64 3] 3))
  refine (HA.out.check _ _ _ none four [3] [] 2 4 4 1 1 0 0 (HC.out.keep HB3.out) rfl four_ok (fun e => by cases e) ints_one rfl (fun l hl => by simp at hl; subst hl; unfold I64; omega) (.inl rfl) rfl ok_nil (by decide) (by decide) (by decide)).mono ?_
  rintro e w3 ⟨rfl, hb3⟩
  rw [four_c]
  have HB4 := Lib.hid (bel_call HB3.out hb3)
  have e0 := (HB4.out.cell (p := ⟨b5, 0, none⟩) hlt).trans ((HB2.out.cell (p := ⟨b5, 0, none⟩) hlt).symm.trans d0)
  have e1 := (HB4.out.cell (p := ⟨b5, 1, none⟩) hlt).trans ((HB2.out.cell (p := ⟨b5, 1, none⟩) hlt).symm.trans d1)
  clear hb3 d0 d1
  go_wp2_with fail
  have HB5 := Lib.hid (bel_alloc HB4.out (.cells #[.int .i64 2] 3))
  refine (HA.out.follows _ _ _ four [2] 2 4 4 1 1 (HC.out.keep HB5.out) rfl four_ok (fun e => by cases e) ints_one rfl (fun l hl => by simp at hl; subst hl; unfold I64; omega) (by decide) (by decide) (by decide)).mono ?_
  rintro e w4 ⟨rfl, hb4⟩
  rw [four_d]
  have HB6 := Lib.hid (bel_call HB5.out hb4)
  have f0 := (HB6.out.cell (p := ⟨b5, 0, none⟩) hlt).trans ((HB4.out.cell (p := ⟨b5, 0, none⟩) hlt).symm.trans e0)
  have f1 := (HB6.out.cell (p := ⟨b5, 1, none⟩) hlt).trans ((HB4.out.cell (p := ⟨b5, 1, none⟩) hlt).symm.trans e1)
  clear hb4 e0 e1
  go_wp2_with fail
  refine (HA.out.follows _ _ none four [] 2 4 4 0 0 (HC.out.keep HB6.out) rfl four_ok (fun e => by cases e) (.inl rfl) rfl (fun l hl => by cases hl) (by decide) (by decide) (by decide)).mono ?_
  rintro e w5 ⟨rfl, hb5⟩
  rw [four_e]
  have HB7 := Lib.hid (bel_call HB6.out hb5)
  clear hb5 f0 f1
  go_wp2_with fail
  go_ret
  exact ⟨rfl, bel_call HB.out HB7.out⟩
end Rp
end Go.Proofs.Ytmgkgbhkaoflhaa
