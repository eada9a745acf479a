/-
  The statements' own small check of the chapter's example.
-/
import Derived.Test.YtcpehdeddgfpmaaDoorCuUnits
import Derived.Test.YtcpehdeddgfpmaaDoorCuNumb
import Derived.Test.YtcpehdeddgfpmaaDoorCfGreat
import Derived.Test.YtcpehdeddgfpmaaDoorCfSame
namespace Go.Proofs.YtcpehdeddgfpmaaDoor
open Go.RowKit
namespace Cf
set_option maxHeartbeats 3200000
set_option maxRecDepth 100000

def exC : Cl := [[1, -2], [2]]
theorem new_ints (W : World) (T : List Int) (A : Array Value) (h : A = (rowI T).toArray) : IntsAt (W.alloc (.cells A 3)) (some ⟨W.heap.size, 0, none⟩) T := by
  subst h
  refine .inr ⟨W.heap.size, 0, rfl, by simp, fun j v hj => ?_⟩
  rw [new_cell, Nat.zero_add]
  simp [rowI, hj]
theorem ex_mem (W : World) : Below W.heap.size W ((((W.alloc (.cells #[.int .i64 1, .int .i64 (-2)] 3)).alloc (.cells #[.int .i64 2] 3)).alloc (.cells #[.slice (some ⟨W.heap.size, 0, none⟩) 2 2, .slice (some ⟨W.heap.size + 1, 0, none⟩) 1 1] 34)).alloc (.cells #[.int .i64 2, .slice (some ⟨W.heap.size + 1 + 1, 0, none⟩) 2 2] 25)) ∧
    ResAt (W.heap.size + 1 + 1 + 1) 2 (.slice (some ⟨W.heap.size + 1 + 1, 0, none⟩) 2 2) ((((W.alloc (.cells #[.int .i64 1, .int .i64 (-2)] 3)).alloc (.cells #[.int .i64 2] 3)).alloc (.cells #[.slice (some ⟨W.heap.size, 0, none⟩) 2 2, .slice (some ⟨W.heap.size + 1, 0, none⟩) 1 1] 34)).alloc (.cells #[.int .i64 2, .slice (some ⟨W.heap.size + 1 + 1, 0, none⟩) 2 2] 25)) ∧
    ClsAt ((((W.alloc (.cells #[.int .i64 1, .int .i64 (-2)] 3)).alloc (.cells #[.int .i64 2] 3)).alloc (.cells #[.slice (some ⟨W.heap.size, 0, none⟩) 2 2, .slice (some ⟨W.heap.size + 1, 0, none⟩) 1 1] 34)).alloc (.cells #[.int .i64 2, .slice (some ⟨W.heap.size + 1 + 1, 0, none⟩) 2 2] 25)) (some ⟨W.heap.size + 1 + 1, 0, none⟩) exC := by
  have i1 := new_ints W [1, -2] #[.int .i64 1, .int .i64 (-2)] rfl
  obtain ⟨W1, hW1⟩ : ∃ W1, W1 = W.alloc (.cells #[.int .i64 1, .int .i64 (-2)] 3) := ⟨_, rfl⟩
  have s1 : W1.heap.size = W.heap.size + 1 := by rw [hW1]; simp
  have b1 : Below W.heap.size W W1 := by rw [hW1]; exact bel_alloc (Below.refl _ _) _
  rw [← hW1] at i1 ⊢
  have i2 := new_ints W1 [2] #[.int .i64 2] rfl
  obtain ⟨W2, hW2⟩ : ∃ W2, W2 = W1.alloc (.cells #[.int .i64 2] 3) := ⟨_, rfl⟩
  have s2 : W2.heap.size = W.heap.size + 1 + 1 := by rw [hW2, ← s1]; simp
  have b2 : Below W1.heap.size W1 W2 := by rw [hW2]; exact bel_alloc (Below.refl _ _) _
  rw [← hW2] at i2 ⊢
  rw [s1] at i2
  have n0 := new_cell W2 #[.slice (some ⟨W.heap.size, 0, none⟩) 2 2, .slice (some ⟨W.heap.size + 1, 0, none⟩) 1 1] 34 0
  have n1 := new_cell W2 #[.slice (some ⟨W.heap.size, 0, none⟩) 2 2, .slice (some ⟨W.heap.size + 1, 0, none⟩) 1 1] 34 1
  obtain ⟨W3, hW3⟩ : ∃ W3, W3 = W2.alloc (.cells #[.slice (some ⟨W.heap.size, 0, none⟩) 2 2, .slice (some ⟨W.heap.size + 1, 0, none⟩) 1 1] 34) := ⟨_, rfl⟩
  have s3 : W3.heap.size = W.heap.size + 1 + 1 + 1 := by rw [hW3, ← s2]; simp
  have b3 : Below W2.heap.size W2 W3 := by rw [hW3]; exact bel_alloc (Below.refl _ _) _
  rw [← hW3] at n0 n1 ⊢
  rw [s2] at n0 n1
  have hR : ResAt W3.heap.size 2 (.slice (some ⟨W.heap.size + 1 + 1, 0, none⟩) 2 2) (W3.alloc (.cells #[.int .i64 2, .slice (some ⟨W.heap.size + 1 + 1, 0, none⟩) 2 2] 25)) := ResAt.new
  have b4 := bel_alloc (Below.refl W3.heap.size W3) (.cells #[.int .i64 2, .slice (some ⟨W.heap.size + 1 + 1, 0, none⟩) 2 2] 25)
  have hC : ClsAt W3 (some ⟨W.heap.size + 1 + 1, 0, none⟩) exC := by
    refine .inr ⟨W.heap.size + 1 + 1, 0, rfl, by omega, fun j k hj => ?_⟩
    match j, hj with
    | 0, hj =>
      obtain rfl : [1, -2] = k := by simpa [exC] using hj
      exact ⟨_, _, n0, (i1.keep b2).keep b3⟩
    | 1, hj =>
      obtain rfl : [2] = k := by simpa [exC] using hj
      exact ⟨_, _, n1, i2.keep b3⟩
    | n + 2, hj => simp [exC] at hj
  rw [s3] at hR
  exact ⟨bel_call (bel_call (bel_call b1 b2) b3) b4, hR, hC.keep b4⟩
theorem exC_ok : OkC exC := by
  refine ⟨by decide, by decide, ?_⟩
  intro k hk l hl
  have : ∀ k ∈ exC, ∀ l ∈ k, -9223372036854775808 ≤ l ∧ l < 9223372036854775808 := by decide
  exact this k hk l hl
theorem exC_put : (putB 2 exC).length = 21 := by
  have d1 : dec 1 = [49] := dec_small (by decide)
  have d2 : dec 2 = [50] := dec_small (by decide)
  simp [putB, headB, clauseB, decI, exC, d1, d2]

theorem lives_any (W : World) (hT : Tens W) : Calls Tryd.prog 5 #[] W fun e w => e = .returned (.bool true) ∧ Below W.heap.size W w := by
  have hz0 : ∀ (w : World) (v : Int) (a : Option Addr) (n c : Nat), (Instr.build 25 #[(0, .int .i64 v), (1, .slice a n c)]).run Tryd.prog w = .ok (.agg #[.int .i64 v, .slice a n c]) w := fun w v a n c => run_build w _ _ _ (by kernel_rfl)
  have HM := Lib.hid (ex_mem W)
  have hm1 : mayC 2 exC = true := by decide
  have HT := Lib.hid hT
  clear hT
  go_enter Tryd.func5, Tryd.ntmps5
  go_upto_region 2 with fail
  change Code.wp _ _ _ _ ((((W.alloc (.cells #[.int .i64 1, .int .i64 (-2)] 3)).alloc (.cells #[.int .i64 2] 3)).alloc (.cells #[.slice (some ⟨W.heap.size, 0, none⟩) 2 2, .slice (some ⟨W.heap.size + 1, 0, none⟩) 1 1] 34)).alloc (.cells #[.int .i64 2, .slice (some ⟨W.heap.size + 1 + 1, 0, none⟩) 2 2] 25))
  generalize ((((W.alloc (.cells #[.int .i64 1, .int .i64 (-2)] 3)).alloc (.cells #[.int .i64 2] 3)).alloc (.cells #[.slice (some ⟨W.heap.size, 0, none⟩) 2 2, .slice (some ⟨W.heap.size + 1, 0, none⟩) 1 1] 34)).alloc (.cells #[.int .i64 2, .slice (some ⟨W.heap.size + 1 + 1, 0, none⟩) 2 2] 25)) = V at HM ⊢
  have HB := Lib.hid HM.out.1
  have HR := Lib.hid HM.out.2.1
  have HC := Lib.hid HM.out.2.2
  have c0 := HR.out.c0
  have c1 := HR.out.c1
  have lb := HR.out.lt
  clear HM
  have HPUT := Lib.hid (cput_yes (v := 2) (c := 2) (HT.out.keep HB.out) HC.out exC_ok hm1 (by decide))
  go_wp2_with fail
  refine HPUT.out.mono ?_
  rintro e w1 ⟨rfl, hb1⟩
  obtain ⟨S, hS⟩ : ∃ S : ByteArray, S = ⟨(putB 2 exC).toArray⟩ := ⟨_, rfl⟩
  have hsz : (((S.size : Nat) : Int) == 21) = true := by rw [hS, str_size, exC_put]; rfl
  rw [← hS]
  have HB1 := Lib.hid (bel_call HB.out hb1)
  have HR1 := Lib.hid (HR.out.call hb1)
  have HC1 := Lib.hid (HC.out.keep hb1)
  have c0 := HR1.out.c0
  have c1 := HR1.out.c1
  have lb := HR1.out.lt
  clear hb1 hS
  have HU := Lib.hid (cunits_yes (vn := 2) (c := 2) (g := []) (gl := none) (gc := 0) HC1.out exC_ok (.inl rfl) hm1 (by decide))
  go_wp2_with fail
  refine HU.out.mono ?_
  rintro e w2 ⟨ua, uc, rfl, hi2, hb2⟩
  have HI2 : Hid (IntsAt w2 ua [2, 1]) := Lib.hid hi2
  have HB2 := Lib.hid (bel_call HB1.out hb2)
  have HR2 := Lib.hid (HR1.out.call hb2)
  have HC2 := Lib.hid (HC1.out.keep hb2)
  rw [show unitsC ((2 : Nat) : Int) exC [] = ([2, 1], true) from by decide]
  have c0 := HR2.out.c0
  have c1 := HR2.out.c1
  have lb := HR2.out.lt
  clear hb2 hi2 HU HPUT
  have HU2 := Lib.hid (cunits_yes (vn := 2) (c := 2) (g := [-1]) (gl := some ⟨w2.heap.size, 0, none⟩) (gc := 1) (HC2.out.keep (bel_alloc (Below.refl w2.heap.size w2) (.cells #[.int .i64 (-1)] 3))) exC_ok (new_ints w2 [-1] #[.int .i64 (-1)] rfl) hm1 (by decide))
  have HB3 := Lib.hid (bel_alloc HB2.out (.cells #[.int .i64 (-1)] 3))
  have HI3 := Lib.hid (HI2.out.keep (bel_alloc (Below.refl w2.heap.size w2) (.cells #[.int .i64 (-1)] 3)))
  go_wp2_with fail
  refine HU2.out.mono ?_
  rintro e w4 ⟨va, vc, rfl, hi4, hb4⟩
  rw [show (unitsC ((2 : Nat) : Int) exC [-1]).2 = false from by decide]
  have HB4 := Lib.hid (bel_call HB3.out hb4)
  have HI4 := Lib.hid (HI3.out.keep hb4)
  clear hb4 hi4 HU2 c0 c1 lb
  have HGET := Lib.hid (fun (w : World) (hT : Tens w) => cget_01 w hT)
  go_wp2_with fail
  refine (HGET.out _ (HT.out.keep HB4.out)).mono ?_
  rintro e w5 ⟨rfl, hb5⟩
  have HB5 := Lib.hid (bel_call HB4.out hb5)
  have HI5 := Lib.hid (HI4.out.keep hb5)
  clear hb5 HGET
  go_upto_region 6 with fail
  change Code.wp _ _ _ _ (w5.alloc (.cells #[.int .i64 0, .slice none 0 0] 25))
  have HB6 := Lib.hid (bel_alloc HB5.out (.cells #[.int .i64 0, .slice none 0 0] 25))
  have HI6 := Lib.hid (HI5.out.keep (bel_alloc (Below.refl w5.heap.size w5) (.cells #[.int .i64 0, .slice none 0 0] 25)))
  generalize w5.alloc (.cells #[.int .i64 0, .slice none 0 0] 25) = w6 at HB6 HI6 ⊢
  have HB7 := Lib.hid (bel_alloc HB6.out (.cells #[.int .i64 2, .int .i64 1] 3))
  have HINT := Lib.hid (ints_any (S := [2, 1]) (T := [2, 1]) (c := uc) (cc := 2) (HI6.out.keep (bel_alloc (Below.refl w6.heap.size w6) (.cells #[.int .i64 2, .int .i64 1] 3))) (new_ints w6 [2, 1] #[.int .i64 2, .int .i64 1] rfl) (by decide) (by decide))
  go_wp2_with fail
  refine HINT.out.mono ?_
  rintro e w7 ⟨rfl, q, rfl⟩
  go_wp2_with fail
  go_ret
  exact ⟨rfl, bel_drewN HB7.out q⟩
end Cf
end Go.Proofs.YtcpehdeddgfpmaaDoor
