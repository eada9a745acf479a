/-
  What layer 9's statements end in: clauses that the document tells, as a fact on one call.
-/
import Derived.Test.YthelkbdiedfmfaaGreatBlBits
import Derived.Test.YthelkbdiedfmfaaGreatBlCnf
namespace Go.Proofs.YthelkbdiedfmfaaGreat
open Go.RowKit Go.Maps Bv Tm
namespace Bl
set_option maxHeartbeats 4000000
set_option maxRecDepth 100000

theorem bits_bad {B BS b s m mb n : Nat} {sv lv ev : Value} {L : List Nd} {ls es : List Int} {T : Tab} {W : World} (h : BlAt B W b s mb lv ev ls es n T) (S : StoreAt BS W s m sv L) :
    Calls Tryz.prog 5 #[.pointer (some ⟨b, 0, none⟩), .int .i64 (-1)] W fun e W' => e = .returned (.tuple #[.slice none 0 0, .int .i64 2]) ∧ Below W.heap.size W W' := by
  have c0 := h.c0
  have c8 := h.c8
  have HN := Lib.hid (node_no S (k := -1) (by simp [inB]))
  clear h S
  go_enter Tryz.func5, Tryz.ntmps5
  go_wp2_with (first | (go_at_call 12; refine (bnone_made b s _ c0).mono ?_; rintro e w1 ⟨rfl, rfl⟩) | (go_at_call 10; refine HN.out.mono ?_; rintro e w1 ⟨rfl, hb1⟩))
  go_ret2
  exact ⟨rfl, bel_alloc hb1 _⟩

theorem mk_first : mk [] (cnd 1 1) = ([cnd 1 1], 0, 0) := by decide
theorem mk_second : mk [cnd 1 1] (cnd 1 0) = ([cnd 1 1, cnd 1 0], 1, 0) := by decide

theorem far_foot {p m i lo hi : Nat} {sv : Value} (hp : p < lo) (hm : m < lo) (h1 : lo ≤ i) (h2 : i < hi) (hs : sv.ownBlock = none ∨ ∃ g, hi ≤ g ∧ sv.ownBlock = some g) : ¬ foot p m sv i := by
  rintro (c | c | c)
  · omega
  · omega
  · rcases hs with e | ⟨g, hg, e⟩
    · rw [e] at c; cases c
    · rw [e] at c; simp at c; omega

theorem bworks_any (W : World) : Calls Tryz.prog 9 #[] W fun e W' => e = .returned (.bool true) ∧ Below W.heap.size W W' := by
  go_enter Tryz.func9, Tryz.ntmps9
  go_wp2_with fail
  refine (new_any W).mono ?_
  rintro e w1 ⟨rfl, hw1⟩
  have S1 := new_store W
  have k1 := new_kept W (.map #[] 0) (.cells (Tryz.zeroCells28.setIfInBounds 1 (.map (some W.heap.size))) 28)
  have z1 : w1.heap.size = W.heap.size + 1 + 1 := by rw [hw1, size_alloc, size_alloc]
  rw [← hw1] at S1 k1
  clear hw1
  have HS1 := Lib.hid S1
  have HK1 := Lib.hid k1
  have HZ1 := Lib.hid z1
  clear S1 k1 z1
  go_wp2_with fail
  refine (bnew_any HS1.out).mono ?_
  rintro e w2 ⟨b, mb, lv, ev, rfl, hB2, hb2⟩
  have HB2 := Lib.hid hB2
  have Hb2 := Lib.hid hb2
  clear hB2 hb2
  go_wp2_with fail
  refine (bcnf_one HB2.out).mono ?_
  rintro e w3 ⟨gc, ga, rfl, mgc, mga, lgc, lga, cgc, cga, hb3⟩
  have Hb3 := Lib.hid hb3
  have HCG := Lib.hid (And.intro cgc cga)
  have HLG := Lib.hid (And.intro (And.intro mgc mga) (And.intro lgc lga))
  clear hb3 mgc mga lgc lga cgc cga
  go_wp2_with fail
  obtain ⟨V, hV⟩ : ∃ V, V = w3.alloc (.cells #[.int .i64 1, .slice (some ⟨gc, 0, none⟩) 1 1] 43) := ⟨_, rfl⟩
  rw [← hV]
  have zV : V.heap.size = w3.heap.size + 1 := by rw [hV, size_alloc]
  have kV : Below w3.heap.size w3 V := by rw [hV]; exact bel_alloc (Below.refl _ _) _
  have hblk : V.heap[w3.heap.size]? = some (.cells #[.int .i64 1, .slice (some ⟨gc, 0, none⟩) 1 1] 43 (0, 0)) := by rw [hV]; exact (MapKept.heap_alloc w3 _).1
  have v0 : V.cell? ⟨w3.heap.size, 0, none⟩ = some (.int .i64 1) := by unfold World.cell?; rw [hblk]; rfl
  have v1 : V.cell? ⟨w3.heap.size, 1, none⟩ = some (.slice (some ⟨gc, 0, none⟩) 1 1) := by unfold World.cell?; rw [hblk]; rfl
  have HV01 := Lib.hid (And.intro v0 v1)
  have HZV := Lib.hid zV
  have HKV := Lib.hid kV
  have SV := ((HS1.out.call Hb2.out).call Hb3.out).call kV
  have HSV := Lib.hid SV
  have bWV : Below W.heap.size W V := bel_call (bel_call (bel_call HK1.out Hb2.out) Hb3.out) kV
  have HBWV := Lib.hid bWV
  clear hV zV kV hblk v0 v1 SV bWV
  refine (const_any HSV.out HBWV.out.size 1 1 (by decide)).mono ?_
  rintro e w4 ⟨he, x4, S4, K4, loc4⟩
  rw [mk_first] at he S4
  simp only [show ((0 : Nat) : Int) = 0 from rfl] at he
  subst he
  have HS4 := Lib.hid S4
  have HK4 := Lib.hid K4
  have HL4 := Lib.hid loc4
  have HBW4 : Hid (Below W.heap.size W w4) := Lib.hid (HBWV.out.trans (K4.below (fun i hi c => by rcases c with c | c | c <;> first | omega | (simp [Value.ownBlock] at c)) HBWV.out.size))
  clear S4 K4 loc4
  go_wp2_with fail
  refine (const_any HS4.out HBW4.out.size 1 0 (by decide)).mono ?_
  rintro e w5 ⟨he, x5, S5, K5, loc5⟩
  rw [mk_second] at he S5
  simp only [show ((0 : Nat) : Int) = 0 from rfl, show ((1 : Nat) : Int) = 1 from rfl] at he
  subst he
  have z1 := HZ1.out
  have zV := HZV.out
  have s2 := Hb2.out.size
  have s3 := Hb3.out.size
  have bp : W.heap.size + 1 < w1.heap.size := by omega
  have bm : W.heap.size < w1.heap.size := by omega
  have own4 : x4.ownBlock = none ∨ ∃ g, V.heap.size ≤ g ∧ x4.ownBlock = some g := HL4.out
  have own5 : x5.ownBlock = none ∨ ∃ g, V.heap.size ≤ g ∧ x5.ownBlock = some g := by
    rcases loc5 with e | ⟨g, hg, e⟩
    · rw [e]; exact own4
    · exact .inr ⟨g, Nat.le_trans HK4.out.size hg, e⟩
  have KF : Kept (fun i => ¬ (w1.heap.size ≤ i ∧ i < V.heap.size)) V w5 :=
    (HK4.out.mono (G := fun i => ¬ (w1.heap.size ≤ i ∧ i < V.heap.size)) (fun i _ c => fun h : w1.heap.size ≤ i ∧ i < V.heap.size => far_foot bp bm h.1 h.2 (.inl rfl) c)).trans (K5.mono (fun i _ c => fun h : w1.heap.size ≤ i ∧ i < V.heap.size => far_foot bp bm h.1 h.2 own4 c))
  have HKF := Lib.hid KF
  have Hm : Hid (w1.heap.size ≤ mb ∧ mb < V.heap.size) := Lib.hid ⟨HB2.out.gm, by have := HB2.out.lm; omega⟩
  have HS5 := Lib.hid S5
  have HO5 := Lib.hid own5
  have HBV := HB2.out.call (bel_call Hb3.out HKV.out)
  have B5 := HBV.kept KF (fun c => c ⟨HBV.gb, by have := HB2.out.lb; omega⟩) (fun c => c Hm.out) (fun g e c => c ⟨(HB2.out.lrow.lt g e).1, by have := (HB2.out.lrow.lt g e).2; omega⟩) (fun g e c => c ⟨(HB2.out.erow.lt g e).1, by have := (HB2.out.erow.lt g e).2; omega⟩)
  have HB5 := Lib.hid B5
  have HBW5 : Hid (Below W.heap.size W w5) := Lib.hid (HBW4.out.trans (K5.below (fun i hi c => by
    rcases c with c | c | c
    · omega
    · omega
    · rcases own4 with e | ⟨g, hg, e⟩
      · rw [e] at c; cases c
      · rw [e] at c; simp at c; have := HBWV.out.size; omega) HBW4.out.size))
  have H5C : Hid (w5.cell? ⟨w3.heap.size, 0, none⟩ = some (.int .i64 1) ∧ w5.cell? ⟨w3.heap.size, 1, none⟩ = some (.slice (some ⟨gc, 0, none⟩) 1 1) ∧ w5.cell? ⟨gc, 0, none⟩ = some (.slice (some ⟨ga, 0, none⟩) 1 1) ∧ w5.cell? ⟨ga, 0, none⟩ = some (.int .i64 1)) := Lib.hid (by
    have n3 : w1.heap.size ≤ w3.heap.size ∧ w3.heap.size < V.heap.size := by omega
    have ng : w1.heap.size ≤ gc ∧ gc < V.heap.size := by have := HLG.out.1.1; have := HLG.out.2.1; omega
    have na : w1.heap.size ≤ ga ∧ ga < V.heap.size := by have := HLG.out.1.2; have := HLG.out.2.2; omega
    exact ⟨(KF.cell (x := ⟨w3.heap.size, 0, none⟩) n3.2 (fun c => c n3)).trans HV01.out.1, (KF.cell (x := ⟨w3.heap.size, 1, none⟩) n3.2 (fun c => c n3)).trans HV01.out.2, (KF.cell (x := ⟨gc, 0, none⟩) ng.2 (fun c => c ng)).trans ((HKV.out.cell (p := ⟨gc, 0, none⟩) HLG.out.2.1).trans HCG.out.1), (KF.cell (x := ⟨ga, 0, none⟩) na.2 (fun c => c na)).trans ((HKV.out.cell (p := ⟨ga, 0, none⟩) HLG.out.2.2).trans HCG.out.2)⟩)
  have L5 : Hid (w3.heap.size < w5.heap.size ∧ gc < w5.heap.size ∧ ga < w5.heap.size ∧ mb < w3.heap.size ∧ mb < w2.heap.size ∧ w2.heap.size ≤ gc ∧ w2.heap.size ≤ ga) := Lib.hid (by
    have := KF.size
    have := HLG.out
    have := HB2.out.lm
    omega)
  clear S5 K5 loc5 z1 zV s2 s3 bp bm own4 own5 KF HBV B5
  have hbits0 : Calls Tryz.prog 5 #[.pointer (some ⟨b, 0, none⟩), .int .i64 0] w5 (BitsOne w1.heap.size b (W.heap.size + 1) mb lv ev [1] [1] 0 (fun _ => none) 0 1 w5) :=
    bits_one HB5.out HS5.out (k := 0) (c := 1) (q := 1) rfl rfl (by omega) const_yes
  have HBI := Lib.hid hbits0
  clear hbits0
  go_wp2_with fail
  refine HBI.out.mono ?_
  rintro e w6 ⟨v6, y6, rfl, hv6, hB6, hK6⟩
  have HV6 := Lib.hid hv6
  have HB6 := Lib.hid hB6
  have HK6 := Lib.hid hK6
  have S6 := Lib.hid (HS5.out.kept hK6 (fun i c e => by
    subst e
    exact far_foot (by have := HZ1.out; omega) (by have := HZ1.out; omega) Hm.out.1 Hm.out.2 HO5.out c))
  clear hv6 hB6 hK6
  have hbits1 : Calls Tryz.prog 5 #[.pointer (some ⟨b, 0, none⟩), .int .i64 1] w6 (BitsOne w1.heap.size b (W.heap.size + 1) mb lv ev [1] [1] 1 (Tab.put (fun _ => none) 0 y6) 1 (-1) w6) :=
    bits_one HB6.out S6.out (k := 1) (c := 0) (q := -1) rfl (by simp [Tab.put]) (by omega) const_no
  have HBJ := Lib.hid hbits1
  clear hbits1
  go_wp2_with fail
  refine HBJ.out.mono ?_
  rintro e w7 ⟨v7, y7, rfl, hv7, hB7, hK7⟩
  have HV7 := Lib.hid hv7
  have HB7 := Lib.hid hB7
  have HK7 := Lib.hid hK7
  have S7 := Lib.hid (S6.out.kept hK7 (fun i c e => by
    subst e
    exact far_foot (by have := HZ1.out; omega) (by have := HZ1.out; omega) Hm.out.1 Hm.out.2 HO5.out c))
  clear hv7 hB7 hK7
  go_wp2_with fail
  refine (bits_bad HB7.out S7.out).mono ?_
  rintro e w8 ⟨rfl, hb8⟩
  have K57 : Kept (fun i => i = mb) w5 w7 := HK6.out.trans HK7.out
  have K58 : Kept (fun i => i = mb) w5 w8 := K57.call hb8
  have z5 := L5.out
  have n3 : w3.heap.size ≠ mb := by omega
  have ng : gc ≠ mb := by omega
  have na : ga ≠ mb := by omega
  have e0 := (K58.cell (x := ⟨w3.heap.size, 0, none⟩) z5.1 n3).trans H5C.out.1
  have e1 := (K58.cell (x := ⟨w3.heap.size, 1, none⟩) z5.1 n3).trans H5C.out.2.1
  have e2 := (K58.cell (x := ⟨gc, 0, none⟩) z5.2.1 ng).trans H5C.out.2.2.1
  have e3 := (K58.cell (x := ⟨ga, 0, none⟩) z5.2.2.1 na).trans H5C.out.2.2.2
  obtain ⟨g6, c6, rfl, m6, l6, x6⟩ := HV6.out
  obtain ⟨g7, c7, rfl, m7, l7, x7⟩ := HV7.out
  have n6 : g6 ≠ mb := by omega
  have z6 := HK6.out.size
  have z7 := HK7.out.size
  have z8 := hb8.size
  have e6 := (hb8.cell (p := ⟨g6, 0, none⟩) (show g6 < w7.heap.size by omega)).trans ((HK7.out.cell (x := ⟨g6, 0, none⟩) l6 n6).trans x6)
  have e7 := (hb8.cell (p := ⟨g7, 0, none⟩) (show g7 < w7.heap.size by omega)).trans x7
  have l38 : w3.heap.size < w8.heap.size := by omega
  have lg8 : gc < w8.heap.size := by omega
  have la8 : ga < w8.heap.size := by omega
  have l68 : g6 < w8.heap.size := by omega
  have l78 : g7 < w8.heap.size := by omega
  have HE6 := Lib.hid e6
  have HE7 := Lib.hid e7
  have HE3 := Lib.hid e3
  have HL := Lib.hid (And.intro la8 (And.intro l68 l78))
  have HZ8 : Hid (Below W.heap.size W w8) := Lib.hid ((HBW5.out.trans (K57.below (fun i hi c => by have := Hm.out.1; have := HZ1.out; omega) HBW5.out.size)).trans (hb8.mono (by have := HBW5.out.size; omega)))
  clear K57 K58 z5 n3 ng na m6 l6 x6 m7 l7 x7 n6 z6 z7 z8 e3 e6 e7 hb8 la8 l68 l78
  go_wp2_with fail
  refine (ints_one ga 1 w8.heap.size 1 1 _ ?_ ?_).mono ?_
  · rw [World.cell?_alloc_lt _ _ _ (show ga < _ from HL.out.1)]; exact HE3.out
  · exact cell_one_new w8 (.int .i64 1) 3 0 _ rfl
  rintro e w9 ⟨rfl, hb9⟩
  have HB9 := Lib.hid (bel_alloc (Below.refl w8.heap.size w8) (.cells #[.int .i64 1] 3) |> fun h => bel_call h hb9)
  clear hb9
  go_wp2_with fail
  refine (ints_one g6 c6 w9.heap.size 1 1 _ ?_ ?_).mono ?_
  · rw [World.cell?_alloc_lt _ _ _ (show g6 < _ from Nat.lt_of_lt_of_le HL.out.2.1 HB9.out.size), HB9.out.cell (p := ⟨g6, 0, none⟩) HL.out.2.1]; exact HE6.out
  · exact cell_one_new w9 (.int .i64 1) 3 0 _ rfl
  rintro e w10 ⟨rfl, hb10⟩
  have HB10 := Lib.hid (bel_call HB9.out (bel_alloc (Below.refl w9.heap.size w9) (.cells #[.int .i64 1] 3) |> fun h => bel_call h hb10))
  clear hb10
  go_wp2_with fail
  refine (ints_one g7 c7 w10.heap.size 1 (-1) _ ?_ ?_).mono ?_
  · rw [World.cell?_alloc_lt _ _ _ (show g7 < _ from Nat.lt_of_lt_of_le HL.out.2.2 HB10.out.size), HB10.out.cell (p := ⟨g7, 0, none⟩) HL.out.2.2]; exact HE7.out
  · exact cell_one_new w10 (.int .i64 (-1)) 3 0 _ rfl
  rintro e w11 ⟨rfl, hb11⟩
  have HB11 := Lib.hid (bel_call HB10.out (bel_alloc (Below.refl w10.heap.size w10) (.cells #[.int .i64 (-1)] 3) |> fun h => bel_call h hb11))
  clear hb11
  go_wp2_with fail
  go_ret
  exact ⟨rfl, HZ8.out.trans (HB11.out.mono HZ8.out.size)⟩
end Bl
end Go.Proofs.YthelkbdiedfmfaaGreat
