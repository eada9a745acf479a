/-
The statement that under whatever assignment the bits that are sure are so, as a fact on one call.
An assignment handed in.
For every list of nodes, every number and every assignment: the law KnownHolds returns true, and what is handed in reads as it did. No condition.
The statement that of none, and of a zero one, known is refused, as a fact on the call.
-/
import Derived.Test.YtigjbngedbbdbaaPt13
import Derived.Test.YtigjbngedbbdbaaPt22
import Derived.Test.YtigjbngedbbdbaaPt29
import Derived.Deep.RegionHeld3
import Derived.BigQuiet
import Derived.Test.YtigjbngedbbdbaaPt28
namespace Go.Proofs.Ytigjbngedbbdbaa
open Go.RowKit Go.Maps Bv Tm
namespace Kn
set_option maxHeartbeats 2000000
set_option maxRecDepth 100000

theorem u64_ofs (i : Int) : IntKind.u64.wrap i = ((i % 18446744073709551616).toNat : Int) := by
  rw [IntKind.wrap_u64]
  omega
/-- Which node is asked: of the number the rest by how many nodes there are. -/
theorem pick_is (id : Int) {n : Nat} (h0 : n ≠ 0) (hn : n ≤ 60) : ∃ kk : Nat, wrap64 ((IntKind.u64.wrap id).tmod ((n : Nat) : Int)) = ((kk : Nat) : Int) ∧ kk < n := by
  rw [u64_ofs]
  obtain ⟨u, hu⟩ : ∃ u : Nat, (id % 18446744073709551616).toNat = u := ⟨_, rfl⟩
  rw [hu]
  have hlt := Nat.mod_lt u (show n > 0 by omega)
  have hm : ((u : Nat) : Int).tmod ((n : Nat) : Int) = ((u % n : Nat) : Int) := rfl
  refine ⟨u % n, ?_, hlt⟩
  rw [hm]
  unfold wrap64
  rw [← IntKind.wrap_i64, IntKind.wrap_i64]
  omega

/-- The masks' and the vector's cells. -/
structure HolS (bb bx : Nat) (z o w n : Int) (v : World) : Prop where
  b0 : v.cell? ⟨bb, 0, none⟩ = some (.int .u64 z)
  b1 : v.cell? ⟨bb, 1, none⟩ = some (.int .u64 o)
  x0 : v.cell? ⟨bx, 0, none⟩ = some (.int .u8 w)
  x1 : v.cell? ⟨bx, 1, none⟩ = some (.int .u64 n)
  lb : bb < v.heap.size
  lx : bx < v.heap.size
theorem HolS.call {bb bx : Nat} {z o w n : Int} {v v' : World} (h : HolS bb bx z o w n v) (k : Below v.heap.size v v') : HolS bb bx z o w n v' :=
  ⟨(k.cell (p := ⟨bb, 0, none⟩) h.lb).trans h.b0, (k.cell (p := ⟨bb, 1, none⟩) h.lb).trans h.b1, (k.cell (p := ⟨bx, 0, none⟩) h.lx).trans h.x0, (k.cell (p := ⟨bx, 1, none⟩) h.lx).trans h.x1, Nat.lt_of_lt_of_le h.lb k.size, Nat.lt_of_lt_of_le h.lx k.size⟩

/-- What the four comparisons come to. -/
theorem hold_facts {w n z o : Nat} (h2 : w ≤ 64) (hs : Sure (z, o) n) (hz : z < 2 ^ w) (ho : o < 2 ^ w) (hn : n < 2 ^ w) (hzo : z &&& o = 0) :
    bits .and .u64 ((n : Nat) : Int) ((z : Nat) : Int) = 0 ∧ bits .and .u64 ((n : Nat) : Int) ((o : Nat) : Int) = ((o : Nat) : Int) ∧ bits .and .u64 ((z : Nat) : Int) ((o : Nat) : Int) = 0 ∧ bits .andNot .u64 (bits .or .u64 ((z : Nat) : Int) ((o : Nat) : Int)) ((2 ^ w - 1 : Nat) : Int) = 0 := by
  have hle := pow_le64 h2
  have hp := pow_pos' w
  have e1 : n &&& z = 0 := by
    apply Nat.eq_of_testBit_eq
    intro j
    rw [Nat.testBit_and, Nat.zero_testBit]
    cases hj : z.testBit j with
    | false => simp
    | true => rw [hs.1 j hj]; rfl
  have e2 : n &&& o = o := by
    apply Nat.eq_of_testBit_eq
    intro j
    rw [Nat.testBit_and]
    cases hj : o.testBit j with
    | false => simp
    | true => rw [hs.2 j hj]; rfl
  have hor : z ||| o < 2 ^ w := Nat.or_lt_two_pow hz ho
  have e4 : (z ||| o) &&& (18446744073709551615 - (2 ^ w - 1)) = 0 := by
    apply Nat.eq_of_testBit_eq
    intro j
    rw [Nat.testBit_and, Nat.zero_testBit]
    by_cases hj : j < w
    · rw [tb_not (by omega) (by omega), Nat.testBit_two_pow_sub_one]
      simp [hj]
    · rw [high_bit hor (by omega)]
      rfl
  refine ⟨?_, ?_, ?_, ?_⟩
  · rw [bits_and_u64_nat n z (by omega) (by omega), e1]; rfl
  · rw [bits_and_u64_nat n o (by omega) (by omega), e2]
  · rw [bits_and_u64_nat z o (by omega) (by omega), hzo]; rfl
  · rw [bits_or_u64_nat z o (by omega) (by omega), u64_andNot_nat _ _ (by omega) (by omega), e4]; rfl

theorem holds_any {W : World} {al aal : Option Addr} {X : List Nd} {a : List Nat} {cl ac n : Nat} (id : Int) (hX : ArgAt W al X) (hok : ∀ x ∈ X, x.Ok) (hn : n = X.length) (HA : AsgAt W aal a) :
    Calls Try.prog 4 #[.slice al n cl, .int .i64 id, .slice aal a.length ac] W fun e W' => e = .returned (.bool true) ∧ Below W.heap.size W W' := by
  have HM := Lib.hid (made_any (cl := cl) hX hok hn)
  have HAA := Lib.hid HA
  clear hX hok hn HA
  go_enter Try.func4, Try.ntmps4
  go_wp2_with fail
  refine HM.out.mono ?_
  rintro e w1 ⟨q, L, rfl, ⟨sv, rv, hT⟩, hM, hL⟩
  clear HM
  obtain ⟨ra, rc, rfl⟩ := hT.r.shape
  have r0 := hT.r.c0
  have lq := hT.r.lt
  have HT := Lib.hid hT
  have HMM := Lib.hid hM
  clear hM
  by_cases hl : L.length = 0
  case pos =>
    rw [hl] at r0
    clear hT hL
    go_wp2_with (go_at_call 9; refine (works_any _).mono ?_; rintro e v3 ⟨rfl, hb3⟩)
    go_ret
    exact ⟨rfl, bel_call HT.out.b hb3⟩
  case neg =>
    have d0 : (((L.length : Nat) : Int) == 0) = false := by
      rw [beq_eq_false_iff_ne]
      omega
    have d1 : ¬ ((L.length : Nat) : Int) = 0 := by omega
    have cw : IntKind.u64.wrap ((L.length : Nat) : Int) = ((L.length : Nat) : Int) := by rw [IntKind.wrap_u64]; omega
    obtain ⟨kk, hkk, hkl⟩ := pick_is id hl hL
    obtain ⟨x, hx⟩ : ∃ x, L[kk]? = some x := ⟨_, List.getElem?_eq_getElem hkl⟩
    have hgd := hT.s.good
    have hw := hgd.w x (List.mem_of_getElem? hx)
    have hkn := kn_lt HMM.out kk x hx
    have hev := mayB_true (ev_may hgd HMM.out a kk x hx)
    have hsure := sure_kn hgd HMM.out a kk x hx
    have hwid : widAt L ((kk : Nat) : Int) = x.w := by unfold widAt; rw [Int.toNat_natCast, hx]; rfl
    have hzo : (kn L kk).1 &&& (kn L kk).2 = 0 := by
      apply Nat.eq_of_testBit_eq
      intro j
      rw [Nat.testBit_and, Nat.zero_testBit]
      cases hj : (kn L kk).1.testBit j with
      | false => rfl
      | true =>
        cases hj2 : (kn L kk).2.testBit j with
        | false => rfl
        | true =>
          have p1 := hsure.1 j hj
          have p2 := hsure.2 j hj2
          rw [p1] at p2
          cases p2
    have HO := Lib.hid (of_yes hT.s HMM.out hkl)
    have HKL := Lib.hid hkl
    obtain ⟨z, hz⟩ : ∃ z, (kn L kk).1 = z := ⟨_, rfl⟩
    obtain ⟨o, ho⟩ : ∃ o, (kn L kk).2 = o := ⟨_, rfl⟩
    obtain ⟨nn, hnn⟩ : ∃ nn, evN L a kk = nn := ⟨_, rfl⟩
    obtain ⟨w, hww⟩ : ∃ w, x.w = w := ⟨_, rfl⟩
    have hs2 : Sure (z, o) nn := by rw [← hz, ← ho, ← hnn]; exact hsure
    have HF := Lib.hid (hold_facts (w := w) (by rw [← hww]; exact hw.2) hs2 (by rw [← hz, ← hww]; exact hkn.1) (by rw [← ho, ← hww]; exact hkn.2) (by rw [← hnn, ← hww]; exact hev.2.2) (by rw [← hz, ← ho]; exact hzo))
    have HMSK := Lib.hid (fun v => rmask_any w (by rw [← hww]; exact hw.2) v)
    have HRE := Lib.hid (fun (v : World) (h : Two W (W.heap.size + 1) W.heap.size q sv (.slice ra L.length rc) L L v) => reval_any (a := a) (al := aal) (ac := ac) h.r HMM.out HKL.out (HAA.out.keep h.b))
    rw [hwid, hww, hnn] at HRE
    rw [hz, ho] at HO
    clear hgd hw hkn hev hsure hwid hzo hz ho hnn hww hs2 hx hT hL hl hkl
    go_wp2_with fail
    simp only [hkk]
    with_reducible refine HO.out.mono ?_
    rintro e w2 ⟨rfl, hb2⟩
    have HT2 := Lib.hid (HT.out.call hb2)
    have HT3 := Lib.hid (HT2.out.call (bel_alloc (Below.refl _ _) (.cells #[.int .u64 ((z : Nat) : Int), .int .u64 ((o : Nat) : Int)] 29)))
    clear hb2 HO r0 lq
    go_wp2_with fail
    refine (HRE.out _ HT3.out).mono ?_
    rintro e w3 ⟨rfl, hb3⟩
    have HT4 := Lib.hid (HT3.out.call hb3)
    have hHOL : HolS w2.heap.size w3.heap.size ((z : Nat) : Int) ((o : Nat) : Int) ((w : Nat) : Int) ((nn : Nat) : Int) (w3.alloc (.cells #[.int .u8 ((w : Nat) : Int), .int .u64 ((nn : Nat) : Int)] 43)) := by
      have hsz := hb3.size
      rw [size_alloc] at hsz
      have hl0 : w2.heap.size < w3.heap.size := by omega
      refine ⟨?_, ?_, by simp [go_sem], by simp [go_sem], by rw [size_alloc]; omega, by rw [size_alloc]; omega⟩
      · rw [World.cell?_alloc_lt _ _ _ hl0, hb3.cell (p := ⟨w2.heap.size, 0, none⟩) (by simp)]; simp [go_sem]
      · rw [World.cell?_alloc_lt _ _ _ hl0, hb3.cell (p := ⟨w2.heap.size, 1, none⟩) (by simp)]; simp [go_sem]
    have HHOL := Lib.hid hHOL
    have HB5 := Lib.hid (bel_alloc HT4.out.b (.cells #[.int .u8 ((w : Nat) : Int), .int .u64 ((nn : Nat) : Int)] 43))
    obtain ⟨w4, hw4⟩ : ∃ w4, w4 = w3.alloc (.cells #[.int .u8 ((w : Nat) : Int), .int .u64 ((nn : Nat) : Int)] 43) := ⟨_, rfl⟩
    go_wp2_with fail
    rw [← hw4] at HHOL HB5
    rw [← hw4]
    obtain ⟨k1, k2, k3, k4⟩ := HF.out
    have HHD := Lib.hid (HHOL.out.call (Below.refl _ _).drew)
    clear hHOL hb3 hw4
    refine wp_region_held_drew (S := HolS w2.heap.size w3.heap.size ((z : Nat) : Int) ((o : Nat) : Int) ((w : Nat) : Int) ((nn : Nat) : Int)) (by kernel_rfl) HHD.out (fun hHeld => ?_)
    refine wpAnyH_take (i := 0) (v := .int .i64 0) (by simp only [List.getElem?_toArray, List.getElem?_cons_zero]; rfl) (by kernel_rfl) (by kernel_rfl) (by kernel_rfl) (by exact fun _ _ _ h => h) (Or.inl ⟨by rfl, ?_⟩) hHeld ?_
    · intro w' hSw
      obtain ⟨s0, s1, s2, s3, s4, s5⟩ := hSw; go_simp; try rfl
    simp only [Act.put, List.setIfInBounds_toArray, List.set_cons_zero, List.set_cons_succ]
    refine wpAnyH_take (i := 1) (v := .bool true) (by simp only [List.getElem?_toArray, List.getElem?_cons_zero, List.getElem?_cons_succ]; rfl) (by kernel_rfl) (by kernel_rfl) (by kernel_rfl) (by exact fun _ _ _ h => h) (Or.inl ⟨by rfl, ?_⟩) hHeld ?_
    · intro w' hSw
      obtain ⟨s0, s1, s2, s3, s4, s5⟩ := hSw; go_simp; try rfl
    simp only [Act.put, List.setIfInBounds_toArray, List.set_cons_zero, List.set_cons_succ]
    refine wpAnyH_take (i := 2) (v := .bool true) (by simp only [List.getElem?_toArray, List.getElem?_cons_zero, List.getElem?_cons_succ]; rfl) (by kernel_rfl) (by kernel_rfl) (by kernel_rfl) (by exact fun _ _ _ h => h) (Or.inl ⟨by rfl, ?_⟩) hHeld ?_
    · intro w' hSw
      obtain ⟨s0, s1, s2, s3, s4, s5⟩ := hSw; go_simp; try rfl
    simp only [Act.put, List.setIfInBounds_toArray, List.set_cons_zero, List.set_cons_succ]
    refine wpAnyH_take (i := 3) (v := .pointer (some ⟨w3.heap.size, 1, none⟩)) (by simp only [List.getElem?_toArray, List.getElem?_cons_zero, List.getElem?_cons_succ]; rfl) (by kernel_rfl) (by kernel_rfl) (by kernel_rfl) (by exact fun _ _ _ h => h) (Or.inl ⟨by rfl, ?_⟩) hHeld ?_
    · intro w' hSw
      obtain ⟨s0, s1, s2, s3, s4, s5⟩ := hSw; go_simp; try rfl
    simp only [Act.put, List.setIfInBounds_toArray, List.set_cons_zero, List.set_cons_succ]
    refine wpAnyH_take (i := 4) (v := .int .u64 ((nn : Nat) : Int)) (by simp only [List.getElem?_toArray, List.getElem?_cons_zero, List.getElem?_cons_succ]; rfl) (by kernel_rfl) (by kernel_rfl) (by kernel_rfl) (by exact fun _ _ _ h => h) (Or.inl ⟨by rfl, ?_⟩) hHeld ?_
    · intro w' hSw
      obtain ⟨s0, s1, s2, s3, s4, s5⟩ := hSw; go_simp; try rfl
    simp only [Act.put, List.setIfInBounds_toArray, List.set_cons_zero, List.set_cons_succ]
    refine wpAnyH_take (i := 5) (v := .pointer (some ⟨w2.heap.size, 0, none⟩)) (by simp only [List.getElem?_toArray, List.getElem?_cons_zero, List.getElem?_cons_succ]; rfl) (by kernel_rfl) (by kernel_rfl) (by kernel_rfl) (by exact fun _ _ _ h => h) (Or.inl ⟨by rfl, ?_⟩) hHeld ?_
    · intro w' hSw
      obtain ⟨s0, s1, s2, s3, s4, s5⟩ := hSw; go_simp; try rfl
    simp only [Act.put, List.setIfInBounds_toArray, List.set_cons_zero, List.set_cons_succ]
    refine wpAnyH_take (i := 6) (v := .int .u64 ((z : Nat) : Int)) (by simp only [List.getElem?_toArray, List.getElem?_cons_zero, List.getElem?_cons_succ]; rfl) (by kernel_rfl) (by kernel_rfl) (by kernel_rfl) (by exact fun _ _ _ h => h) (Or.inl ⟨by rfl, ?_⟩) hHeld ?_
    · intro w' hSw
      obtain ⟨s0, s1, s2, s3, s4, s5⟩ := hSw; go_simp; try rfl
    simp only [Act.put, List.setIfInBounds_toArray, List.set_cons_zero, List.set_cons_succ]
    refine wpAnyH_take (i := 7) (v := .int .u64 0) (by simp only [List.getElem?_toArray, List.getElem?_cons_zero, List.getElem?_cons_succ]; rfl) (by kernel_rfl) (by kernel_rfl) (by kernel_rfl) (by exact fun _ _ _ h => h) (Or.inl ⟨by rfl, ?_⟩) hHeld ?_
    · intro w' hSw
      obtain ⟨s0, s1, s2, s3, s4, s5⟩ := hSw; go_simp; try rfl
    simp only [Act.put, List.setIfInBounds_toArray, List.set_cons_zero, List.set_cons_succ]
    refine wpAnyH_take (i := 8) (v := .bool true) (by simp only [List.getElem?_toArray, List.getElem?_cons_zero, List.getElem?_cons_succ]; rfl) (by kernel_rfl) (by kernel_rfl) (by kernel_rfl) (by exact fun _ _ _ h => h) (Or.inl ⟨by rfl, ?_⟩) hHeld ?_
    · intro w' hSw
      obtain ⟨s0, s1, s2, s3, s4, s5⟩ := hSw; go_simp; try rfl
    simp only [Act.put, List.setIfInBounds_toArray, List.set_cons_zero, List.set_cons_succ]
    refine wpAnyH_take (i := 9) (v := .bool true) (by simp only [List.getElem?_toArray, List.getElem?_cons_zero, List.getElem?_cons_succ]; rfl) (by kernel_rfl) (by kernel_rfl) (by kernel_rfl) (by exact fun _ _ _ h => h) (Or.inl ⟨by rfl, ?_⟩) hHeld ?_
    · intro w' hSw
      obtain ⟨s0, s1, s2, s3, s4, s5⟩ := hSw; go_simp; try rfl
    simp only [Act.put, List.setIfInBounds_toArray, List.set_cons_zero, List.set_cons_succ]
    refine wpAnyH_take (i := 10) (v := .bool true) (by simp only [List.getElem?_toArray, List.getElem?_cons_zero, List.getElem?_cons_succ]; rfl) (by kernel_rfl) (by kernel_rfl) (by kernel_rfl) (by exact fun _ _ _ h => h) (Or.inl ⟨by rfl, ?_⟩) hHeld ?_
    · intro w' hSw
      obtain ⟨s0, s1, s2, s3, s4, s5⟩ := hSw; go_simp; try rfl
    simp only [Act.put, List.setIfInBounds_toArray, List.set_cons_zero, List.set_cons_succ]
    refine wpAnyH_take (i := 11) (v := .pointer (some ⟨w3.heap.size, 1, none⟩)) (by simp only [List.getElem?_toArray, List.getElem?_cons_zero, List.getElem?_cons_succ]; rfl) (by kernel_rfl) (by kernel_rfl) (by kernel_rfl) (by exact fun _ _ _ h => h) (Or.inl ⟨by rfl, ?_⟩) hHeld ?_
    · intro w' hSw
      obtain ⟨s0, s1, s2, s3, s4, s5⟩ := hSw; go_simp; try rfl
    simp only [Act.put, List.setIfInBounds_toArray, List.set_cons_zero, List.set_cons_succ]
    refine wpAnyH_take (i := 12) (v := .int .u64 ((nn : Nat) : Int)) (by simp only [List.getElem?_toArray, List.getElem?_cons_zero, List.getElem?_cons_succ]; rfl) (by kernel_rfl) (by kernel_rfl) (by kernel_rfl) (by exact fun _ _ _ h => h) (Or.inl ⟨by rfl, ?_⟩) hHeld ?_
    · intro w' hSw
      obtain ⟨s0, s1, s2, s3, s4, s5⟩ := hSw; go_simp; try rfl
    simp only [Act.put, List.setIfInBounds_toArray, List.set_cons_zero, List.set_cons_succ]
    refine wpAnyH_take (i := 13) (v := .pointer (some ⟨w2.heap.size, 1, none⟩)) (by simp only [List.getElem?_toArray, List.getElem?_cons_zero, List.getElem?_cons_succ]; rfl) (by kernel_rfl) (by kernel_rfl) (by kernel_rfl) (by exact fun _ _ _ h => h) (Or.inl ⟨by rfl, ?_⟩) hHeld ?_
    · intro w' hSw
      obtain ⟨s0, s1, s2, s3, s4, s5⟩ := hSw; go_simp; try rfl
    simp only [Act.put, List.setIfInBounds_toArray, List.set_cons_zero, List.set_cons_succ]
    refine wpAnyH_take (i := 14) (v := .int .u64 ((o : Nat) : Int)) (by simp only [List.getElem?_toArray, List.getElem?_cons_zero, List.getElem?_cons_succ]; rfl) (by kernel_rfl) (by kernel_rfl) (by kernel_rfl) (by exact fun _ _ _ h => h) (Or.inl ⟨by rfl, ?_⟩) hHeld ?_
    · intro w' hSw
      obtain ⟨s0, s1, s2, s3, s4, s5⟩ := hSw; go_simp; try rfl
    simp only [Act.put, List.setIfInBounds_toArray, List.set_cons_zero, List.set_cons_succ]
    refine wpAnyH_take (i := 15) (v := .int .u64 ((o : Nat) : Int)) (by simp only [List.getElem?_toArray, List.getElem?_cons_zero, List.getElem?_cons_succ]; rfl) (by kernel_rfl) (by kernel_rfl) (by kernel_rfl) (by exact fun _ _ _ h => h) (Or.inl ⟨by rfl, ?_⟩) hHeld ?_
    · intro w' hSw
      obtain ⟨s0, s1, s2, s3, s4, s5⟩ := hSw; go_simp; try rfl
    simp only [Act.put, List.setIfInBounds_toArray, List.set_cons_zero, List.set_cons_succ]
    refine wpAnyH_take (i := 16) (v := .pointer (some ⟨w2.heap.size, 1, none⟩)) (by simp only [List.getElem?_toArray, List.getElem?_cons_zero, List.getElem?_cons_succ]; rfl) (by kernel_rfl) (by kernel_rfl) (by kernel_rfl) (by exact fun _ _ _ h => h) (Or.inl ⟨by rfl, ?_⟩) hHeld ?_
    · intro w' hSw
      obtain ⟨s0, s1, s2, s3, s4, s5⟩ := hSw; go_simp; try rfl
    simp only [Act.put, List.setIfInBounds_toArray, List.set_cons_zero, List.set_cons_succ]
    refine wpAnyH_take (i := 17) (v := .int .u64 ((o : Nat) : Int)) (by simp only [List.getElem?_toArray, List.getElem?_cons_zero, List.getElem?_cons_succ]; rfl) (by kernel_rfl) (by kernel_rfl) (by kernel_rfl) (by exact fun _ _ _ h => h) (Or.inl ⟨by rfl, ?_⟩) hHeld ?_
    · intro w' hSw
      obtain ⟨s0, s1, s2, s3, s4, s5⟩ := hSw; go_simp; try rfl
    simp only [Act.put, List.setIfInBounds_toArray, List.set_cons_zero, List.set_cons_succ]
    refine wpAnyH_take (i := 18) (v := .bool true) (by simp only [List.getElem?_toArray, List.getElem?_cons_zero, List.getElem?_cons_succ]; rfl) (by kernel_rfl) (by kernel_rfl) (by kernel_rfl) (by exact fun _ _ _ h => h) (Or.inl ⟨by rfl, ?_⟩) hHeld ?_
    · intro w' hSw
      obtain ⟨s0, s1, s2, s3, s4, s5⟩ := hSw; go_simp; try rfl
    simp only [Act.put, List.setIfInBounds_toArray, List.set_cons_zero, List.set_cons_succ]
    refine wpAnyH_take (i := 19) (v := .bool true) (by simp only [List.getElem?_toArray, List.getElem?_cons_zero, List.getElem?_cons_succ]; rfl) (by kernel_rfl) (by kernel_rfl) (by kernel_rfl) (by exact fun _ _ _ h => h) (Or.inl ⟨by rfl, ?_⟩) hHeld ?_
    · intro w' hSw
      obtain ⟨s0, s1, s2, s3, s4, s5⟩ := hSw; go_simp; try rfl
    simp only [Act.put, List.setIfInBounds_toArray, List.set_cons_zero, List.set_cons_succ]
    refine wpAnyH_take (i := 20) (v := .bool true) (by simp only [List.getElem?_toArray, List.getElem?_cons_zero, List.getElem?_cons_succ]; rfl) (by kernel_rfl) (by kernel_rfl) (by kernel_rfl) (by exact fun _ _ _ h => h) (Or.inl ⟨by rfl, ?_⟩) hHeld ?_
    · intro w' hSw
      obtain ⟨s0, s1, s2, s3, s4, s5⟩ := hSw; go_simp; try rfl
    simp only [Act.put, List.setIfInBounds_toArray, List.set_cons_zero, List.set_cons_succ]
    refine wpAnyH_take (i := 21) (v := .pointer (some ⟨w2.heap.size, 0, none⟩)) (by simp only [List.getElem?_toArray, List.getElem?_cons_zero, List.getElem?_cons_succ]; rfl) (by kernel_rfl) (by kernel_rfl) (by kernel_rfl) (by exact fun _ _ _ h => h) (Or.inl ⟨by rfl, ?_⟩) hHeld ?_
    · intro w' hSw
      obtain ⟨s0, s1, s2, s3, s4, s5⟩ := hSw; go_simp; try rfl
    simp only [Act.put, List.setIfInBounds_toArray, List.set_cons_zero, List.set_cons_succ]
    refine wpAnyH_take (i := 22) (v := .int .u64 ((z : Nat) : Int)) (by simp only [List.getElem?_toArray, List.getElem?_cons_zero, List.getElem?_cons_succ]; rfl) (by kernel_rfl) (by kernel_rfl) (by kernel_rfl) (by exact fun _ _ _ h => h) (Or.inl ⟨by rfl, ?_⟩) hHeld ?_
    · intro w' hSw
      obtain ⟨s0, s1, s2, s3, s4, s5⟩ := hSw; go_simp; try rfl
    simp only [Act.put, List.setIfInBounds_toArray, List.set_cons_zero, List.set_cons_succ]
    refine wpAnyH_take (i := 23) (v := .pointer (some ⟨w2.heap.size, 1, none⟩)) (by simp only [List.getElem?_toArray, List.getElem?_cons_zero, List.getElem?_cons_succ]; rfl) (by kernel_rfl) (by kernel_rfl) (by kernel_rfl) (by exact fun _ _ _ h => h) (Or.inl ⟨by rfl, ?_⟩) hHeld ?_
    · intro w' hSw
      obtain ⟨s0, s1, s2, s3, s4, s5⟩ := hSw; go_simp; try rfl
    simp only [Act.put, List.setIfInBounds_toArray, List.set_cons_zero, List.set_cons_succ]
    refine wpAnyH_take (i := 24) (v := .int .u64 ((o : Nat) : Int)) (by simp only [List.getElem?_toArray, List.getElem?_cons_zero, List.getElem?_cons_succ]; rfl) (by kernel_rfl) (by kernel_rfl) (by kernel_rfl) (by exact fun _ _ _ h => h) (Or.inl ⟨by rfl, ?_⟩) hHeld ?_
    · intro w' hSw
      obtain ⟨s0, s1, s2, s3, s4, s5⟩ := hSw; go_simp; try rfl
    simp only [Act.put, List.setIfInBounds_toArray, List.set_cons_zero, List.set_cons_succ]
    refine wpAnyH_take (i := 25) (v := .int .u64 0) (by simp only [List.getElem?_toArray, List.getElem?_cons_zero, List.getElem?_cons_succ]; rfl) (by kernel_rfl) (by kernel_rfl) (by kernel_rfl) (by exact fun _ _ _ h => h) (Or.inl ⟨by rfl, ?_⟩) hHeld ?_
    · intro w' hSw
      obtain ⟨s0, s1, s2, s3, s4, s5⟩ := hSw; go_simp; try rfl
    simp only [Act.put, List.setIfInBounds_toArray, List.set_cons_zero, List.set_cons_succ]
    refine wpAnyH_take (i := 26) (v := .bool true) (by simp only [List.getElem?_toArray, List.getElem?_cons_zero, List.getElem?_cons_succ]; rfl) (by kernel_rfl) (by kernel_rfl) (by kernel_rfl) (by exact fun _ _ _ h => h) (Or.inl ⟨by rfl, ?_⟩) hHeld ?_
    · intro w' hSw
      obtain ⟨s0, s1, s2, s3, s4, s5⟩ := hSw; go_simp; try rfl
    simp only [Act.put, List.setIfInBounds_toArray, List.set_cons_zero, List.set_cons_succ]
    refine wpAnyH_take (i := 27) (v := .bool true) (by simp only [List.getElem?_toArray, List.getElem?_cons_zero, List.getElem?_cons_succ]; rfl) (by kernel_rfl) (by kernel_rfl) (by kernel_rfl) (by exact fun _ _ _ h => h) (Or.inl ⟨by rfl, ?_⟩) hHeld ?_
    · intro w' hSw
      obtain ⟨s0, s1, s2, s3, s4, s5⟩ := hSw; go_simp; try rfl
    simp only [Act.put, List.setIfInBounds_toArray, List.set_cons_zero, List.set_cons_succ]
    refine wpAnyH_take (i := 28) (v := .bool true) (by simp only [List.getElem?_toArray, List.getElem?_cons_zero, List.getElem?_cons_succ]; rfl) (by kernel_rfl) (by kernel_rfl) (by kernel_rfl) (by exact fun _ _ _ h => h) (Or.inl ⟨by rfl, ?_⟩) hHeld ?_
    · intro w' hSw
      obtain ⟨s0, s1, s2, s3, s4, s5⟩ := hSw; go_simp; try rfl
    simp only [Act.put, List.setIfInBounds_toArray, List.set_cons_zero, List.set_cons_succ]
    refine wpAnyH_take (i := 29) (v := .pointer (some ⟨w2.heap.size, 0, none⟩)) (by simp only [List.getElem?_toArray, List.getElem?_cons_zero, List.getElem?_cons_succ]; rfl) (by kernel_rfl) (by kernel_rfl) (by kernel_rfl) (by exact fun _ _ _ h => h) (Or.inl ⟨by rfl, ?_⟩) hHeld ?_
    · intro w' hSw
      obtain ⟨s0, s1, s2, s3, s4, s5⟩ := hSw; go_simp; try rfl
    simp only [Act.put, List.setIfInBounds_toArray, List.set_cons_zero, List.set_cons_succ]
    refine wpAnyH_take (i := 30) (v := .int .u64 ((z : Nat) : Int)) (by simp only [List.getElem?_toArray, List.getElem?_cons_zero, List.getElem?_cons_succ]; rfl) (by kernel_rfl) (by kernel_rfl) (by kernel_rfl) (by exact fun _ _ _ h => h) (Or.inl ⟨by rfl, ?_⟩) hHeld ?_
    · intro w' hSw
      obtain ⟨s0, s1, s2, s3, s4, s5⟩ := hSw; go_simp; try rfl
    simp only [Act.put, List.setIfInBounds_toArray, List.set_cons_zero, List.set_cons_succ]
    refine wpAnyH_take (i := 31) (v := .pointer (some ⟨w2.heap.size, 1, none⟩)) (by simp only [List.getElem?_toArray, List.getElem?_cons_zero, List.getElem?_cons_succ]; rfl) (by kernel_rfl) (by kernel_rfl) (by kernel_rfl) (by exact fun _ _ _ h => h) (Or.inl ⟨by rfl, ?_⟩) hHeld ?_
    · intro w' hSw
      obtain ⟨s0, s1, s2, s3, s4, s5⟩ := hSw; go_simp; try rfl
    simp only [Act.put, List.setIfInBounds_toArray, List.set_cons_zero, List.set_cons_succ]
    refine wpAnyH_take (i := 32) (v := .int .u64 ((o : Nat) : Int)) (by simp only [List.getElem?_toArray, List.getElem?_cons_zero, List.getElem?_cons_succ]; rfl) (by kernel_rfl) (by kernel_rfl) (by kernel_rfl) (by exact fun _ _ _ h => h) (Or.inl ⟨by rfl, ?_⟩) hHeld ?_
    · intro w' hSw
      obtain ⟨s0, s1, s2, s3, s4, s5⟩ := hSw; go_simp; try rfl
    simp only [Act.put, List.setIfInBounds_toArray, List.set_cons_zero, List.set_cons_succ]
    refine wpAnyH_take (i := 33) (v := .int .u64 (bits .or .u64 ((z : Nat) : Int) ((o : Nat) : Int))) (by simp only [List.getElem?_toArray, List.getElem?_cons_zero, List.getElem?_cons_succ]; rfl) (by kernel_rfl) (by kernel_rfl) (by kernel_rfl) (by exact fun _ _ _ h => h) (Or.inl ⟨by rfl, ?_⟩) hHeld ?_
    · intro w' hSw
      obtain ⟨s0, s1, s2, s3, s4, s5⟩ := hSw; go_simp; try rfl
    simp only [Act.put, List.setIfInBounds_toArray, List.set_cons_zero, List.set_cons_succ]
    refine wpAnyH_take (i := 34) (v := .pointer (some ⟨w3.heap.size, 0, none⟩)) (by simp only [List.getElem?_toArray, List.getElem?_cons_zero, List.getElem?_cons_succ]; rfl) (by kernel_rfl) (by kernel_rfl) (by kernel_rfl) (by exact fun _ _ _ h => h) (Or.inl ⟨by rfl, ?_⟩) hHeld ?_
    · intro w' hSw
      obtain ⟨s0, s1, s2, s3, s4, s5⟩ := hSw; go_simp; try rfl
    simp only [Act.put, List.setIfInBounds_toArray, List.set_cons_zero, List.set_cons_succ]
    refine wpAnyH_take (i := 35) (v := .int .u8 ((w : Nat) : Int)) (by simp only [List.getElem?_toArray, List.getElem?_cons_zero, List.getElem?_cons_succ]; rfl) (by kernel_rfl) (by kernel_rfl) (by kernel_rfl) (by exact fun _ _ _ h => h) (Or.inl ⟨by rfl, ?_⟩) hHeld ?_
    · intro w' hSw
      obtain ⟨s0, s1, s2, s3, s4, s5⟩ := hSw; go_simp; try rfl
    simp only [Act.put, List.setIfInBounds_toArray, List.set_cons_zero, List.set_cons_succ]
    refine wpAnyH_ready (rs := [36]) (by kernel_rfl) (by simp) ?_
    refine AllReadyH.cons (by simp only [List.getElem?_toArray, List.getElem?_cons_zero, List.getElem?_cons_succ]; rfl) (fun K hK => ?_) AllReadyH.nil
    go_simp
    refine (HMSK.out _).mono ?_; rintro e v5 ⟨rfl, rfl⟩
    refine hK.out _ _ hHeld (fun hHeld => ?_)
    clear hK K
    try simp only [Act.put, List.setIfInBounds_toArray, List.set_cons_zero, List.set_cons_succ]
    refine wpAnyH_take (i := 37) (v := .int .u64 0) (by simp only [List.getElem?_toArray, List.getElem?_cons_zero, List.getElem?_cons_succ]; rfl) (by kernel_rfl) (by kernel_rfl) (by kernel_rfl) (by exact fun _ _ _ h => h) (Or.inl ⟨by rfl, ?_⟩) hHeld ?_
    · intro w' hSw
      obtain ⟨s0, s1, s2, s3, s4, s5⟩ := hSw; go_simp; try rfl
    simp only [Act.put, List.setIfInBounds_toArray, List.set_cons_zero, List.set_cons_succ]
    refine wpAnyH_take (i := 38) (v := .bool true) (by simp only [List.getElem?_toArray, List.getElem?_cons_zero, List.getElem?_cons_succ]; rfl) (by kernel_rfl) (by kernel_rfl) (by kernel_rfl) (by exact fun _ _ _ h => h) (Or.inl ⟨by rfl, ?_⟩) hHeld ?_
    · intro w' hSw
      obtain ⟨s0, s1, s2, s3, s4, s5⟩ := hSw; go_simp; try rfl
    simp only [Act.put, List.setIfInBounds_toArray, List.set_cons_zero, List.set_cons_succ]
    refine wpAnyH_take (i := 39) (v := .bool true) (by simp only [List.getElem?_toArray, List.getElem?_cons_zero, List.getElem?_cons_succ]; rfl) (by kernel_rfl) (by kernel_rfl) (by kernel_rfl) (by exact fun _ _ _ h => h) (Or.inl ⟨by rfl, ?_⟩) hHeld ?_
    · intro w' hSw
      obtain ⟨s0, s1, s2, s3, s4, s5⟩ := hSw; go_simp; try rfl
    simp only [Act.put, List.setIfInBounds_toArray, List.set_cons_zero, List.set_cons_succ]
    refine wpAnyH_take (i := 40) (v := .bool true) (by simp only [List.getElem?_toArray, List.getElem?_cons_zero, List.getElem?_cons_succ]; rfl) (by kernel_rfl) (by kernel_rfl) (by kernel_rfl) (by exact fun _ _ _ h => h) (Or.inl ⟨by rfl, ?_⟩) hHeld ?_
    · intro w' hSw
      obtain ⟨s0, s1, s2, s3, s4, s5⟩ := hSw; go_simp; try rfl
    simp only [Act.put, List.setIfInBounds_toArray, List.set_cons_zero, List.set_cons_succ]
    refine wpAnyH_ready (rs := [41]) (by kernel_rfl) (by simp) ?_
    refine AllReadyH.cons (by simp only [List.getElem?_toArray, List.getElem?_cons_zero, List.getElem?_cons_succ]; rfl) (fun K hK => ?_) AllReadyH.nil
    go_simp
    refine (works_any _).mono ?_; rintro e w6 ⟨rfl, hb6⟩
    refine hK.out _ _ (hHeld.call hb6) (fun hHeld => ?_)
    clear hK K
    try simp only [Act.put, List.setIfInBounds_toArray, List.set_cons_zero, List.set_cons_succ]
    refine wpAnyH_take (i := 42) (v := .bool true) (by simp only [List.getElem?_toArray, List.getElem?_cons_zero, List.getElem?_cons_succ]; rfl) (by kernel_rfl) (by kernel_rfl) (by kernel_rfl) (by exact fun _ _ _ h => h) (Or.inl ⟨by rfl, ?_⟩) hHeld ?_
    · intro w' hSw
      obtain ⟨s0, s1, s2, s3, s4, s5⟩ := hSw; go_simp; try rfl
    simp only [Act.put, List.setIfInBounds_toArray, List.set_cons_zero, List.set_cons_succ]
    refine wpAnyH_take (i := 43) (v := .bool true) (by simp only [List.getElem?_toArray, List.getElem?_cons_zero, List.getElem?_cons_succ]; rfl) (by kernel_rfl) (by kernel_rfl) (by kernel_rfl) (by exact fun _ _ _ h => h) (Or.inl ⟨by rfl, ?_⟩) hHeld ?_
    · intro w' hSw
      obtain ⟨s0, s1, s2, s3, s4, s5⟩ := hSw; go_simp; try rfl
    simp only [Act.put, List.setIfInBounds_toArray, List.set_cons_zero, List.set_cons_succ]
    refine wpAnyH_done (by kernel_rfl) ?_ _
    go_wp2_with fail
    go_ret
    exact ⟨rfl, bel_call HB5.out.drew hb6⟩
end Kn
end Go.Proofs.Ytigjbngedbbdbaa

namespace Go.Proofs.Ytigjbngedbbdbaa
open Go.ChangeShapes Go.WideShapes Go.ChangeAt Go.RowKit Go.Joins Bv
namespace Tm
set_option maxHeartbeats 400000

theorem cell1_u64 : Try.prog.cellsOf 27 = 1 := by kernel_rfl
theorem open_asg {H : Type} {enc : TypeId × Value → H} {W : World} {al : Option Addr} {len cap : Nat} {d : DataW H} {ps : List MemPlace} (h : DataW.Trod enc Try.prog W 0 (fun _ => true) true 37 (.slice al len cap) d ps) :
    ∃ a : List Nat, len = a.length ∧ AsgAt W al a ∧ (a = [] ∨ ∃ el sp, d = .slice el sp ∧ el.length = a.length) := by
  obtain ⟨fuel, hf⟩ := h
  rcases Go.Deep.open_slice1 Try.underlying37 cell1_u64 hf with ⟨hcs, _⟩ | ⟨a, len', cap', m, n, V, D, Pl, hcs, _, hl, hcap, hm, hxx, hall⟩
  · simp [Value.cells] at hcs
    obtain ⟨_, rfl, _⟩ := hcs
    exact ⟨[], rfl, ⟨.inl rfl, by simp, by simp⟩, .inl rfl⟩
  · simp [Value.cells] at hcs
    obtain ⟨rfl, rfl, rfl⟩ := hcs
    simp only [if_true] at hm
    have hex : ∀ i : Nat, ∃ v : Nat, i < m → v < 18446744073709551616 ∧ W.cell? (a.add i) = some (.int .u64 ((v : Nat) : Int)) := by
      intro i
      by_cases hi : i < m
      · obtain ⟨h1, h2⟩ := hall i hi
        obtain ⟨z, e, _, w⟩ := DataW.trod_int Try.underlying27 h2
        simp only [List.cons.injEq, and_true] at e
        obtain ⟨v, rfl, hv⟩ := u64_of w
        exact ⟨v, fun _ => ⟨hv, by rw [h1, e]⟩⟩
      · exact ⟨0, fun c => absurd c hi⟩
    obtain ⟨f, hfx⟩ := Classical.axiomOfChoice hex
    refine ⟨(List.range len).map f, by simp, ⟨?_, ?_, ?_⟩, .inr ⟨_, _, (congrArg Prod.fst hxx), by simp⟩⟩
    · by_cases h0 : len = 0
      · left; subst h0; rfl
      · right
        obtain ⟨bl, ol, sp⟩ := a
        have c0 := (hfx 0 (by omega)).2
        have hs : sp = none := by
          simp only [Addr.add, if_true] at c0
          simpa using World.cell?_spot c0
        subst hs
        have hadd : ∀ j, (⟨bl, ol, none⟩ : Addr).add j = ⟨bl, ol + j, none⟩ := fun j => by
          unfold Addr.add
          split <;> simp_all
        rw [hadd] at c0
        refine ⟨bl, ol, rfl, World.block_lt_of_cell? W _ c0, fun j v hj => ?_⟩
        have hi : j < len := by have := (List.getElem?_eq_some_iff.1 hj).1; simpa using this
        have hv : v = f j := by simp [hi] at hj; exact hj.symm
        subst hv
        have := (hfx j (by omega)).2
        rw [hadd] at this
        exact this
    · intro v hv
      obtain ⟨i, hi, rfl⟩ := List.mem_map.1 hv
      exact (hfx i (by have := List.mem_range.1 hi; omega)).1
    · simp only [List.length_map, List.length_range]
      unfold maxLen at hcap
      omega
end Tm
end Go.Proofs.Ytigjbngedbbdbaa

namespace Go.Proofs.Ytigjbngedbbdbaa
open Go.ChangeShapes Go.WideShapes Go.ChangeAt Go.RowKit Go.Joins Bv
namespace Tm
set_option maxHeartbeats 400000

set_option maxRecDepth 100000 in
theorem knownHolds_lifted (os : Os) (started : os.Started) (H : Type) (enc : TypeId × Value → H) :
    ReturnsInHanded {} Try.checked os 4 .any (Rows.knownHoldsSpec.pre6 enc Try.prog Try.f4 Rows.knownHoldsRow.domain false) (Rows.knownHoldsSpec.post enc Try.prog Try.f4 false true false false) := by
  refine returnsInHanded_of_change (C := Try.checked) ownk started (by kernel_rfl) Try.func4
    (ChangeSpec.witness6 (enc := enc) (C := Try.checked) false ⟨#[], #[.slice none 0 0, .int .i64 0, .slice none 0 0], []⟩ 8 (by kernel_rfl) (by kernel_rfl) (by kernel_rfl) (by kernel_rfl)) ?_
  intro W base args ds gs before hval0 hW _ _
  have hval : ∀ (j : Nat) t v, Try.f4.params[j]? = some t → args[j]? = some v → Value.okWide Try.prog W .any base t v := hval0
  have hW' := hW
  obtain ⟨p, q, hA0, hV, rfl, _, _⟩ := hW
  have hA : DataW.TrodAll enc Try.prog W 0 (fun _ => true) true Try.f4.params.toList args.toList ds p := hA0
  rw [Try.params4] at hA hval
  obtain ⟨v0, vs0, d0, ds0, p0, q0, hargs, rfl, rfl, h0, r0⟩ := trodAll_cons hA
  obtain ⟨v1, vs1, d1, ds1, p1, q1, rfl, rfl, rfl, h1, r1⟩ := trodAll_cons r0
  obtain ⟨v2, vs2, d2, ds2, p2, q2, rfl, rfl, rfl, h2, r2⟩ := trodAll_cons r1
  obtain ⟨rfl, rfl, rfl⟩ := trodAll_nil r2
  obtain rfl : args = #[v0, v1, v2] := by cases args; simp_all
  obtain ⟨rfl, rfl⟩ := trodVars_none hV
  obtain ⟨al0, len0, cap0, rfl⟩ := okWide_slice Try.underlying22 (hval 0 22 v0 rfl rfl)
  obtain ⟨i1, rfl, rfl, rfl, w1⟩ := open_int Try.underlying3 (hval 1 3 v1 rfl rfl) h1
  obtain ⟨al2, len2, cap2, rfl⟩ := okWide_slice Try.underlying37 (hval 2 37 v2 rfl rfl)
  clear hA0 hval0
  simp only [List.append_nil] at hW'
  have hlt0 : ∀ x ∈ p0, x.block < W.heap.size := fun x hx => hW'.lt x (by simp [hx])
  have hlt2 : ∀ x ∈ p2, x.block < W.heap.size := fun x hx => hW'.lt x (by simp [hx])
  obtain ⟨X0, hlen0, hok0, hat0⟩ := open_nodes h0
  obtain ⟨a2, rfl, hA2, _⟩ := open_asg h2
  refine (Kn.holds_any (cl := cap0) (ac := cap2) i1 hat0 hok0 hlen0 hA2).mono fun e W' ⟨he, hg⟩ => ?_
  subst he
  refine ⟨_, rfl, _, _, _, [], (p0 ++ ([] ++ (p2 ++ []))), [], hW', ?_, ?_, rfl, hg.frame _, fun h => by cases h⟩
  · exact trodAll_mk1 (shut_bool Try.underlying4 _)
  · exact (trodAll_cons_mk (Below.trod laid (by kernel_rfl) (of_decide_eq_true (by kernel_rfl)) h0 hg hlt0) (trodAll_cons_mk (shut_int Try.underlying3 w1) (trodAll_cons_mk (Below.trod laid (by kernel_rfl) (of_decide_eq_true (by kernel_rfl)) h2 hg hlt2) trodAll_mk0)))

theorem knownHolds_said : Rows.KnownHoldsSaid :=
  OpenClaim.holds_of_wide 4 Try.f4 rfl rfl rfl rfl rfl rfl rfl ⟨rfl, rfl, rfl, rfl, rfl⟩ rfl rfl rfl rfl rfl (by kernel_rfl) Try.func4 (by kernel_rfl)
    (of_decide_eq_true (by kernel_rfl)) (by unfold Func.isWrapper; rw [if_neg (of_decide_eq_false (by kernel_rfl))]; exact ⟨rfl, rfl⟩)
    (fun os started H enc _ => knownHolds_lifted os started H enc)
end Tm
theorem knownHolds_holds : Rows.KnownHoldsSaid := Tm.knownHolds_said
#print axioms knownHolds_holds
end Go.Proofs.Ytigjbngedbbdbaa

namespace Go.Proofs.Ytigjbngedbbdbaa
open Go.RowKit Go.Maps Bv Tm
namespace Kn
set_option maxHeartbeats 1000000
set_option maxRecDepth 100000

theorem noneAt_zeroK (W : World) : NoneAt (W.alloc (.cells Try.zeroCells49 49)) (.pointer (some ⟨W.heap.size, 0, none⟩)) := by
  refine .inr ⟨_, rfl, ?_⟩
  have h := (MapKept.heap_alloc W (.cells Try.zeroCells49 49)).1
  unfold World.cell?
  rw [h, zero_is]
  rfl

theorem knil_true (id : Int) (W : World) :
    Calls Try.prog 5 #[.int .i64 id, .bool true] W fun e W' => e = .returned (.bool true) ∧ Below W.heap.size W W' := by
  have HN0 : Hid (NoneAt (W.alloc (.cells Try.zeroCells49 49)) (.pointer (some ⟨W.heap.size, 0, none⟩))) := Lib.hid (noneAt_zeroK W)
  have HB0 : Hid (Below W.heap.size W (W.alloc (.cells Try.zeroCells49 49))) := Lib.hid (bel_alloc (Below.refl W.heap.size W) _)
  go_enter Try.func5, Try.ntmps5
  go_wp2_with (go_at_call 7; refine (of_none _ id _ HN0.out).mono ?_; rintro e v1 ⟨rfl, hb1⟩; have HB1 := Lib.hid (bel_call HB0.out hb1); clear hb1)
  refine (works_any _).mono ?_
  rintro e v5 ⟨rfl, hb5⟩
  go_wp2_with fail
  go_ret
  exact ⟨rfl, bel_call (bel_alloc HB1.out _) hb5⟩

theorem knil_false (id : Int) (W : World) :
    Calls Try.prog 5 #[.int .i64 id, .bool false] W fun e W' => e = .returned (.bool true) ∧ Below W.heap.size W W' := by
  have HN0 : Hid (NoneAt W (.pointer none)) := Lib.hid (.inl rfl)
  have HB0 : Hid (Below W.heap.size W W) := Lib.hid (Below.refl _ _)
  go_enter Try.func5, Try.ntmps5
  go_wp2_with (go_at_call 7; refine (of_none _ id _ HN0.out).mono ?_; rintro e v1 ⟨rfl, hb1⟩; have HB1 := Lib.hid (bel_call HB0.out hb1); clear hb1)
  refine (works_any _).mono ?_
  rintro e v5 ⟨rfl, hb5⟩
  go_wp2_with fail
  go_ret
  exact ⟨rfl, bel_call (bel_alloc HB1.out _) hb5⟩
end Kn
end Go.Proofs.Ytigjbngedbbdbaa
