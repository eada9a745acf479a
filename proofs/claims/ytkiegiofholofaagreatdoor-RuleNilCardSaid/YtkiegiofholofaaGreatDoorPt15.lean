/-
The bits of a node that are sure, of a store that was made: a fact on one call.
A width cut to a byte, as a fact on one call.
Const of layer term, of a store that was made.
Rule 2 of layer rule, as a fact on one call.
-/
import Derived.Test.YtkiegiofholofaaGreatDoorPt14
import Derived.Deep.LoopGhost
import Derived.Test.YtkiegiofholofaaGreatDoorPt03
import Derived.Test.YtkiegiofholofaaGreatDoorPt10
import Derived.Deep.QuietTactic
import Derived.Test.YtkiegiofholofaaGreatDoorPt12
import Derived.BigRegion
import Derived.BigQuiet
import Derived.Lib.Hide
import Derived.Deep.RegionHeld3
namespace Go.Proofs.YtkiegiofholofaaGreatDoor
open Go.RowKit Go.Maps Bv Tm
namespace Kn
set_option maxHeartbeats 2000000
set_option maxRecDepth 100000

theorem of_yes {B p m k : Nat} {sv : Value} {L : List Nd} {W : World} (S : StoreAt B W p m sv L) (hM : MayL L) (hk : k < L.length) :
    Calls Tryz.prog 84 #[.pointer (some ⟨p, 0, none⟩), .int .i64 ((k : Nat) : Int)] W fun e W' => e = .returned (.tuple #[.agg #[.int .u64 (((kn L k).1 : Nat) : Int), .int .u64 (((kn L k).2 : Nat) : Int)], .int .i64 0]) ∧ Below W.heap.size W W' := by
  obtain ⟨x, hx⟩ : ∃ x, L[k]? = some x := ⟨_, List.getElem?_eq_getElem hk⟩
  have HS := Lib.hid S
  have HX := Lib.hid hx
  have HM := Lib.hid hM
  have HK := Lib.hid hk
  clear S hx hM hk
  have HB0 := Lib.hid (bel_alloc (Below.refl W.heap.size W) (.cells #[.int .u64 0, .int .u64 0] 127))
  have hmm := @run_makeMap Tryz.prog
  go_enter Tryz.func84, Tryz.ntmps84
  go_wp2_with fail
  refine (node_yes (HS.out.call HB0.out) HX.out).mono ?_
  rintro e w1 ⟨rfl, hb1⟩
  have a0 : w1.cell? ⟨W.heap.size, 0, none⟩ = some (.int .u64 0) := (hb1.cell (p := ⟨W.heap.size, 0, none⟩) (by simp)).trans (by simp [go_sem])
  have a1 : w1.cell? ⟨W.heap.size, 1, none⟩ = some (.int .u64 0) := (hb1.cell (p := ⟨W.heap.size, 1, none⟩) (by simp)).trans (by simp [go_sem])
  have fr : ∀ o, w1.frozen? ⟨W.heap.size, o, none⟩ = false := fun o => (hb1.frozen (p := ⟨W.heap.size, o, none⟩) (by simp)).trans (by simp [go_sem])
  have al : W.heap.size < w1.heap.size := by have := hb1.size; simp at this; omega
  have HB1 := Lib.hid (bel_call HB0.out hb1)
  obtain ⟨xo, xw, x0, x1, x2, xn, xl⟩ := x
  unfold Nd.val
  clear hb1
  have hb2 : Below W.heap.size W (((w1.alloc (.cells #[.int .u8 ((xo : Nat) : Int), .int .u8 ((xw : Nat) : Int), .int .i64 x0, .int .i64 x1, .int .i64 x2, .int .u64 ((xn : Nat) : Int), .int .u8 ((xl : Nat) : Int)] 36)).alloc (.map #[] 0)).alloc (.cells #[.int .i64 ((k : Nat) : Int)] 3)) := bel_alloc (bel_alloc (bel_alloc HB1.out _) _) _
  have HST : Hid (OfRel W L W.heap.size (w1.heap.size + 1) k (mu [(k, false)]) (.slice (some ⟨w1.heap.size + 1 + 1, 0, none⟩) 1 1) (((w1.alloc (.cells #[.int .u8 ((xo : Nat) : Int), .int .u8 ((xw : Nat) : Int), .int .i64 x0, .int .i64 x1, .int .i64 x2, .int .u64 ((xn : Nat) : Int), .int .u8 ((xl : Nat) : Int)] 36)).alloc (.map #[] 0)).alloc (.cells #[.int .i64 ((k : Nat) : Int)] 3))) := by
    refine Lib.hid ⟨[(k, false)], [], ⟨?_, ?_, by omega, hb2, ?_, ?_, fun o => ?_, ?_, Nat.le_refl _, by omega, ?_, ?_⟩, inv_start HK.out, rfl, by simp⟩
    · have := row_new ((w1.alloc (.cells #[.int .u8 ((xo : Nat) : Int), .int .u8 ((xw : Nat) : Int), .int .i64 x0, .int .i64 x1, .int .i64 x2, .int .u64 ((xn : Nat) : Int), .int .u8 ((xl : Nat) : Int)] 36)).alloc (.map #[] 0)) ((k : Nat) : Int) W.heap.size (by rw [size_alloc, size_alloc]; omega)
      rw [size_alloc, size_alloc] at this
      exact this
    · refine MapAt.same (w := (w1.alloc (.cells #[.int .u8 ((xo : Nat) : Int), .int .u8 ((xw : Nat) : Int), .int .i64 x0, .int .i64 x1, .int .i64 x2, .int .u64 ((xn : Nat) : Int), .int .u8 ((xl : Nat) : Int)] 36)).alloc (.map #[] 0)) ⟨.map [], ?_, kbTab_nil L⟩ (Below.heap_alloc _ _ _ (by simp))
      have := World.ownsMap_made (H := Unit) (w1.alloc (.cells #[.int .u8 ((xo : Nat) : Int), .int .u8 ((xw : Nat) : Int), .int .i64 x0, .int .i64 x1, .int .i64 x2, .int .u64 ((xn : Nat) : Int), .int .u8 ((xl : Nat) : Int)] 36)) Tryz.prog 3 kbElem
      rw [size_alloc] at this
      exact this
    · rw [World.cell?_alloc_lt _ _ _ (by simp; omega), World.cell?_alloc_lt _ _ _ (by simp; omega), World.cell?_alloc_lt _ _ _ al]; exact a0
    · rw [World.cell?_alloc_lt _ _ _ (by simp; omega), World.cell?_alloc_lt _ _ _ (by simp; omega), World.cell?_alloc_lt _ _ _ al]; exact a1
    · rw [World.frozen?_alloc_old _ _ _ (by simp; omega), World.frozen?_alloc_old _ _ _ (by simp; omega), World.frozen?_alloc_old _ _ _ (by simp; omega)]; exact fr o
    · simp; omega
    · simp [Value.ownBlock]
    · simp [Value.ownBlock]; omega
  clear hb2 a0 a1 fr HB1
  go_wp2_with fail
  go_loopg [9] (mu [(k, false)]) (fun gk u9 wr => OfRel W L W.heap.size (w1.heap.size + 1) k gk u9 wr)
  case atStart => exact HST.out
  case round =>
    obtain ⟨bm, hbm⟩ : ∃ bm, w1.heap.size + 1 = bm := ⟨_, rfl⟩
    obtain ⟨F, N, hA, hI, hgk, hN⟩ := hrel
    rw [hbm] at hA
    clear HST
    rcases List.eq_nil_or_concat F with rfl | ⟨F0, f, hF⟩
    · clear hmm
      obtain ⟨a, c, rfl⟩ : ∃ a c, u9 = .slice a 0 c := by
        rcases hA.row with ⟨_, ⟨h1, h2⟩ | ⟨g, cap, cur, hv, _⟩⟩
        · exact ⟨none, 0, h1⟩
        · exact ⟨_, _, hv⟩
      have hkn : k ∈ N := by
        rcases hI.bot with c | ⟨c, hc⟩
        · exact c
        · simp at hc
      have hk6 : I64 ((k : Nat) : Int) := by have := HK.out; have := HS.out.good.len; unfold I64; omega
      have hl := hA.map.look hk6
      unfold lkV at hl
      rw [lkB_in (by omega) (by simpa using hkn), Int.toNat_natCast] at hl
      have a0 := hA.a0
      have a1 := hA.a1
      have f0 := hA.fr 0
      have f1 := hA.fr 1
      have la := hA.al
      have HBE := Lib.hid hA.bel
      have hf1 := field_1 ((lkW L N ((k : Nat) : Int) : Nat) : Int) (((kn L k).1 : Nat) : Int) (((kn L k).2 : Nat) : Int)
      have hf2 := field_2 ((lkW L N ((k : Nat) : Int) : Nat) : Int) (((kn L k).1 : Nat) : Int) (((kn L k).2 : Nat) : Int)
      clear hA hI hN hkn hk6
      go_wp2_with fail
      exact bodyPost_ret (v := .tuple #[.agg #[.int .u64 (((kn L k).1 : Nat) : Int), .int .u64 (((kn L k).2 : Nat) : Int)], .int .i64 0]) (by simp [results, Tryz.results84, go_sem, a0, a1]) rfl ⟨rfl, (HBE.out.setCell (Nat.le_refl _) _).setCell (Nat.le_refl _) _⟩
    · rw [List.concat_eq_append] at hF
      subst hF
      obtain ⟨t, b⟩ := f
      rw [List.map_append] at hA
      obtain ⟨T0, hT0⟩ : ∃ T0, F0.map Prod.fst = T0 := ⟨_, rfl⟩
      rw [hT0] at hA
      have htl : t < L.length := hI.fin (t, b) (by simp)
      obtain ⟨y, hy⟩ : ∃ y, L[t]? = some y := ⟨_, List.getElem?_eq_getElem htl⟩
      have hTl := hI.len
      have hTe : T0.length = F0.length := by rw [← hT0]; simp
      simp only [List.length_append, List.length_singleton] at hTl
      obtain ⟨g, c, rfl, hc, lg, hlast, gbm, gA⟩ := OfAt.last hA
      have HA := Lib.hid hA
      have HI := Lib.hid hI
      have HY := Lib.hid hy
      have HTL := Lib.hid (And.intro hTl hTe)
      have HT0 := Lib.hid hT0
      have hlen := HS.out.good.len
      obtain ⟨n1, hn1⟩ : ∃ n1, n1 = T0.length + 1 := ⟨_, rfl⟩
      obtain ⟨n0, hn0⟩ : ∃ n0, n0 = T0.length := ⟨_, rfl⟩
      have HN1 := Lib.hid hn1
      have HN0 := Lib.hid hn0
      have hk3 := HK.out
      have q0 : (0 : Int) < ((n1 : Nat) : Int) := by omega
      have q1 : IntKind.i64.wrap (((n1 : Nat) : Int) - 1) = ((n0 : Nat) : Int) := by rw [IntKind.wrap_i64]; omega
      have q1' : wrap64 (((n1 : Nat) : Int) - 1) = ((n0 : Nat) : Int) := by unfold wrap64; rw [← IntKind.wrap_i64]; exact q1
      have q2 : ((n0 : Nat) : Int) < ((n1 : Nat) : Int) := by omega
      have q3 : (0 : Int) ≤ ((n0 : Nat) : Int) := by omega
      have q4 : ((n0 : Nat) : Int) ≤ ((c : Nat) : Int) := by omega
      have e1 : (Value.slice (some ⟨g, 0, none⟩) (T0.length + 1) c) = .slice (some ⟨g, 0, none⟩) n1 c := by rw [hn1]
      simp only [e1]
      rw [← hn0] at hlast
      have HBM := Lib.hid hbm
      have HBB := Lib.hid (And.intro gbm gA)
      clear hA hI hy hTl hTe hT0 hlen hn1 hn0 hk3 e1 hc gbm gA htl hmm
      have hbm' := Lib.hid hbm
      simp only [hbm]
      clear hbm
      go_wp2_with fail
      refine (node_yes (HS.out.call HA.out.bel) HY.out).mono ?_
      rintro e w2 ⟨rfl, hb2⟩
      obtain ⟨yo, yw, y0, y1, y2, yn, yl⟩ := y
      unfold Nd.val
      have hlast2 : w2.cell? ⟨g, n0, none⟩ = some (.int .i64 ((t : Nat) : Int)) := (hb2.cell (p := ⟨g, n0, none⟩) lg).trans hlast
      have lg2 : g < w2.heap.size := Nat.lt_of_lt_of_le lg hb2.size
      have HA2 := Lib.hid (HA.out.call hb2)
      have HBX2 := Lib.hid (At7.new w2 (.int .u8 ((yo : Nat) : Int)) (.int .u8 ((yw : Nat) : Int)) (.int .i64 y0) (.int .i64 y1) (.int .i64 y2) (.int .u64 ((yn : Nat) : Int)) (.int .u8 ((yl : Nat) : Int)) 36)
      have HA3 := Lib.hid (HA2.out.call (bel_alloc (Below.refl _ _) (.cells #[.int .u8 ((yo : Nat) : Int), .int .u8 ((yw : Nat) : Int), .int .i64 y0, .int .i64 y1, .int .i64 y2, .int .u64 ((yn : Nat) : Int), .int .u8 ((yl : Nat) : Int)] 36)))
      have HMISS := Lib.hid (miss_any (x := ⟨yo, yw, y0, y1, y2, yn, yl⟩) HA3.out.map (mayN_op (HM.out t _ HY.out)).2 (fun j hj => by
        have h1 := mayL_kids HM.out HY.out j (Nat.lt_of_lt_of_le hj (ka_le _))
        have h2 := (List.getElem?_eq_some_iff.1 HY.out).1
        have h3 := HS.out.good.len
        omega))
      unfold Nd.val at HMISS
      clear hb2 hlast lg
      go_wp2_with fail
      refine HMISS.out.mono ?_
      rintro e w4 ⟨v4, rfl, hrow4, hb4⟩
      have HA4 := Lib.hid (HA3.out.call hb4)
      have HBX4 := Lib.hid (HBX2.out.keep hb4)
      have hlast4 : w4.cell? ⟨g, n0, none⟩ = some (.int .i64 ((t : Nat) : Int)) := (hb4.cell (p := ⟨g, n0, none⟩) (by simp; omega)).trans ((World.cell?_alloc_lt _ _ _ lg2).trans hlast2)
      have lg4 : g < w4.heap.size := by have := hb4.size; simp at this; omega
      have l4 : w2.heap.size < w4.heap.size := by have := hb4.size; simp at this; omega
      have HW2 : Hid (¬ w2.heap.size = bm) := Lib.hid (by have := HA2.out.map.lt; omega)
      clear HMISS HA2 HA3 HBX2 hlast2 hb4 lg2
      obtain ⟨M, hMM⟩ : ∃ M, missOf N ⟨yo, yw, y0, y1, y2, yn, yl⟩ (ka yo) = M := ⟨_, rfl⟩
      rw [hMM] at hrow4
      by_cases hm : M = []
      case pos =>
        have HPOP := Lib.hid (HI.out.pop HY.out (by rw [← hm]; exact hMM))
        subst hm
        obtain ⟨a4, c4, rfl⟩ : ∃ a c, v4 = .slice a 0 c := by
          rcases hrow4 with ⟨_, ⟨h1, h2⟩ | ⟨g, cap, cur, hv, _⟩⟩
          · exact ⟨none, 0, h1⟩
          · exact ⟨_, _, hv⟩
        clear hrow4
        have HS4 := Lib.hid ((⟨hlast4, lg4, HBX4.out⟩ : OfS g n0 t w2.heap.size _ _ _ _ _ _ _ w4).call (Below.refl _ _).drew)
        have HSURE := Lib.hid (sure_any (x := ⟨yo, yw, y0, y1, y2, yn, yl⟩) (W := w4.drew) (HS.out.call HA4.out.bel.drew) HM.out HY.out (HA4.out.map.same rfl) HI.out.nin HPOP.out.2.2)
        unfold Nd.val at HSURE
        have HA4D := Lib.hid (HA4.out.call (Below.refl _ _).drew)
        have hwid : widAt L ((t : Nat) : Int) = yw := by unfold widAt; rw [Int.toNat_natCast, HY.out]; rfl
        have HWID := Lib.hid hwid
        have ht2 : t < 200001 := by have := (List.getElem?_eq_some_iff.1 HY.out).1; have := HS.out.good.len; omega
        have HT2 := Lib.hid ht2
        have HNN := Lib.hid hN
        clear hwid ht2 HBX4
        go_wp2_with fail
        refine wp_region_held_drew (S := OfS g n0 t w2.heap.size _ _ _ _ _ _ _) (by kernel_rfl) HS4.out (fun hHeld => ?_)
        refine wpAnyH_take (i := 0) (v := .map (some bm)) (by simp only [List.getElem?_toArray, List.getElem?_cons_zero]; rfl) (by kernel_rfl) (by kernel_rfl) (by kernel_rfl) (by exact fun _ _ _ h => h) (Or.inl ⟨by rfl, ?_⟩) hHeld ?_
        · intro w' hSw
          obtain ⟨s0, s1, s2⟩ := hSw; have lbx := s2.lt; unfold At7 at s2; obtain ⟨_, m0, m1, m2, m3, m4, m5, m6⟩ := And.intro trivial s2; go_simp; try rfl
        simp only [Act.put, List.setIfInBounds_toArray, List.set_cons_zero, List.set_cons_succ]
        refine wpAnyH_take (i := 1) (v := .slice (some ⟨g, 0, none⟩) n1 c) (by simp only [List.getElem?_toArray, List.getElem?_cons_zero, List.getElem?_cons_succ]; rfl) (by kernel_rfl) (by kernel_rfl) (by kernel_rfl) (by exact fun _ _ _ h => h) (Or.inl ⟨by rfl, ?_⟩) hHeld ?_
        · intro w' hSw
          obtain ⟨s0, s1, s2⟩ := hSw; have lbx := s2.lt; unfold At7 at s2; obtain ⟨_, m0, m1, m2, m3, m4, m5, m6⟩ := And.intro trivial s2; go_simp; try rfl
        simp only [Act.put, List.setIfInBounds_toArray, List.set_cons_zero, List.set_cons_succ]
        refine wpAnyH_take (i := 2) (v := .int .i64 ((n0 : Nat) : Int)) (by simp only [List.getElem?_toArray, List.getElem?_cons_zero, List.getElem?_cons_succ]; rfl) (by kernel_rfl) (by kernel_rfl) (by kernel_rfl) (by exact fun _ _ _ h => h) (Or.inl ⟨by rfl, ?_⟩) hHeld ?_
        · intro w' hSw
          obtain ⟨s0, s1, s2⟩ := hSw; have lbx := s2.lt; unfold At7 at s2; obtain ⟨_, m0, m1, m2, m3, m4, m5, m6⟩ := And.intro trivial s2; go_simp; try rfl
        simp only [Act.put, List.setIfInBounds_toArray, List.set_cons_zero, List.set_cons_succ]
        refine wpAnyH_take (i := 3) (v := .pointer (some ⟨g, n0, none⟩)) (by simp only [List.getElem?_toArray, List.getElem?_cons_zero, List.getElem?_cons_succ]; rfl) (by kernel_rfl) (by kernel_rfl) (by kernel_rfl) (by exact fun _ _ _ h => h) (Or.inl ⟨by rfl, ?_⟩) hHeld ?_
        · intro w' hSw
          obtain ⟨s0, s1, s2⟩ := hSw; have lbx := s2.lt; unfold At7 at s2; obtain ⟨_, m0, m1, m2, m3, m4, m5, m6⟩ := And.intro trivial s2; go_simp; try rfl
        simp only [Act.put, List.setIfInBounds_toArray, List.set_cons_zero, List.set_cons_succ]
        refine wpAnyH_take (i := 4) (v := .int .i64 ((t : Nat) : Int)) (by simp only [List.getElem?_toArray, List.getElem?_cons_zero, List.getElem?_cons_succ]; rfl) (by kernel_rfl) (by kernel_rfl) (by kernel_rfl) (by exact fun _ _ _ h => h) (Or.inl ⟨by rfl, ?_⟩) hHeld ?_
        · intro w' hSw
          obtain ⟨s0, s1, s2⟩ := hSw; have lbx := s2.lt; unfold At7 at s2; obtain ⟨_, m0, m1, m2, m3, m4, m5, m6⟩ := And.intro trivial s2; go_simp; try rfl
        simp only [Act.put, List.setIfInBounds_toArray, List.set_cons_zero, List.set_cons_succ]
        refine wpAnyH_take (i := 5) (v := .pointer (some ⟨p, 0, none⟩)) (by simp only [List.getElem?_toArray, List.getElem?_cons_zero, List.getElem?_cons_succ]; rfl) (by kernel_rfl) (by kernel_rfl) (by kernel_rfl) (by exact fun _ _ _ h => h) (Or.inl ⟨by rfl, ?_⟩) hHeld ?_
        · intro w' hSw
          obtain ⟨s0, s1, s2⟩ := hSw; have lbx := s2.lt; unfold At7 at s2; obtain ⟨_, m0, m1, m2, m3, m4, m5, m6⟩ := And.intro trivial s2; go_simp; try rfl
        simp only [Act.put, List.setIfInBounds_toArray, List.set_cons_zero, List.set_cons_succ]
        refine wpAnyH_take (i := 6) (v := .agg #[.int .u8 ((yo : Nat) : Int), .int .u8 ((yw : Nat) : Int), .int .i64 y0, .int .i64 y1, .int .i64 y2, .int .u64 ((yn : Nat) : Int), .int .u8 ((yl : Nat) : Int)]) (by simp only [List.getElem?_toArray, List.getElem?_cons_zero, List.getElem?_cons_succ]; rfl) (by kernel_rfl) (by kernel_rfl) (by kernel_rfl) (by exact fun _ _ _ h => h) (Or.inl ⟨by rfl, ?_⟩) hHeld ?_
        · intro w' hSw
          obtain ⟨s0, s1, s2⟩ := hSw; have lbx := s2.lt; unfold At7 at s2; obtain ⟨_, m0, m1, m2, m3, m4, m5, m6⟩ := And.intro trivial s2; go_simp; try rfl
        simp only [Act.put, List.setIfInBounds_toArray, List.set_cons_zero, List.set_cons_succ]
        refine wpAnyH_take (i := 7) (v := .map (some bm)) (by simp only [List.getElem?_toArray, List.getElem?_cons_zero, List.getElem?_cons_succ]; rfl) (by kernel_rfl) (by kernel_rfl) (by kernel_rfl) (by exact fun _ _ _ h => h) (Or.inl ⟨by rfl, ?_⟩) hHeld ?_
        · intro w' hSw
          obtain ⟨s0, s1, s2⟩ := hSw; have lbx := s2.lt; unfold At7 at s2; obtain ⟨_, m0, m1, m2, m3, m4, m5, m6⟩ := And.intro trivial s2; go_simp; try rfl
        simp only [Act.put, List.setIfInBounds_toArray, List.set_cons_zero, List.set_cons_succ]
        refine wpAnyH_ready (rs := [8]) (by kernel_rfl) (by simp) ?_
        refine AllReadyH.cons (by simp only [List.getElem?_toArray, List.getElem?_cons_zero, List.getElem?_cons_succ]; rfl) (fun K hK => ?_) AllReadyH.nil
        go_simp
        refine HSURE.out.mono ?_
        rintro e w5 ⟨rfl, hb5⟩
        have HA5 := HA4D.out.call hb5
        obtain ⟨w6, hrun, hA6, hK6⟩ := HA5.put HT2.out HNN.out (key := .int .i64 ((t : Nat) : Int)) (val := .agg #[.int .u8 ((yw : Nat) : Int), .int .u64 (((kn L t).1 : Nat) : Int), .int .u64 (((kn L t).2 : Nat) : Int)]) rfl (by rw [HWID.out])
        have HA6 := Lib.hid hA6
        have HK6 := Lib.hid hK6
        have hcl := hHeld.call hb5
        have HCL := Lib.hid (hcl.kept hK6 HBB.out.1 HW2.out)
        refine hK.out _ _ hcl (fun hHeld => ?_)
        clear hK K hb5 HA5 hA6 hK6 hcl
        try simp only [Act.put, List.setIfInBounds_toArray, List.set_cons_zero, List.set_cons_succ]
        refine wpAnyH_ready (rs := [9]) (by kernel_rfl) (by simp) ?_
        refine AllReadyH.cons (by simp only [List.getElem?_toArray, List.getElem?_cons_zero, List.getElem?_cons_succ]; rfl) (fun K hK => ?_) AllReadyH.nil
        go_simp
        refine hK.out _ _ HCL.out (fun hHeld => ?_)
        clear hK K hrun
        try simp only [Act.put, List.setIfInBounds_toArray, List.set_cons_zero, List.set_cons_succ]
        refine wpAnyH_done (by kernel_rfl) ?_ _
        go_wp2_with fail
        have hbb := hbm'.out
        subst hbb
        go_roundg (mu F0)
        case measure => rw [hgk]; exact HPOP.out.2.1
        case rel =>
          have hd := HA6.out.drop
          rw [← HN0.out] at hd
          refine ⟨F0, addK N t, by rw [HT0.out]; exact hd, HPOP.out.1, rfl, Nat.le_trans (hd.map.len HPOP.out.1.nin) HS.out.good.len⟩
      case neg =>
        have HPUSH := Lib.hid (HI.out.push HM.out HY.out (by rw [show (⟨yo, yw, y0, y1, y2, yn, yl⟩ : Nd).o = yo from rfl, hMM]; exact hm))
        rw [show (⟨yo, yw, y0, y1, y2, yn, yl⟩ : Nd).o = yo from rfl, hMM] at HPUSH
        have HML : Hid (M.length ≤ 3) := Lib.hid (by rw [← hMM]; exact Nat.le_trans (missOf_len _ _ _) (Nat.le_trans (ka_le _) (kc_le _)))
        have hpos : 0 < M.length := List.length_pos_iff.2 hm
        obtain ⟨nm, hnm⟩ : ∃ nm, M.length = nm := ⟨_, rfl⟩
        obtain ⟨gm, cm, rfl⟩ : ∃ gm cm, v4 = .slice (some ⟨gm, 0, none⟩) nm cm := by
          rcases hrow4 with ⟨_, ⟨h1, h2⟩ | ⟨gm, cap, cur, hv, _⟩⟩
          · omega
          · exact ⟨gm, cap, by rw [hv, hnm]⟩
        have HNM := Lib.hid hnm
        have HCL : Hid (∀ (j : Nat) (u : Value), (todoRow M)[j]? = some u → w4.cell? ((⟨gm, 0, none⟩ : Addr).add j) = some u) := Lib.hid (fun j u hu => hrow4.cells (g := gm) rfl j u hu)
        have H1 := Lib.hid (show ∀ u ∈ todoRow M, u.oneCell' = true by intro u hu; simp [todoRow] at hu; obtain ⟨v, _, rfl⟩ := hu; rfl)
        have q5 : (0 : Int) < ((nm : Nat) : Int) := by omega
        have HROW := Lib.hid HA4.out.row
        have hzz : ((T0 ++ [t]).length) = n1 := by have := HN1.out; simp; omega
        have HSZ := Lib.hid HA4.out.bel.size
        obtain ⟨i0, hinfo, hz0, hz1, hz2⟩ := info_parts info_int
        rw [show List.map Prod.fst [(t, b)] = [t] from rfl, hzz, ← HN1.out] at HROW
        have HZZ := Lib.hid hzz
        clear hrow4 hMM hm hpos hnm hzz
        go_wp2_with (at_builtin; go_loud (refine wpList_append_own_at _ rfl (.tmp 48) (.tmp 49) 85 rfl W.heap.size 3 i0 (.int .i64 0) 1 8 Tryz.underlying85 hinfo hz0 hz1 hz2 rfl (by decide) (.slice (some ⟨g, 0, none⟩) n1 c) n1 (todoRow (T0 ++ [t])) rfl HROW.out ⟨gm, 0, none⟩ nm cm (todoRow M) rfl (by simp [todoRow]; exact HNM.out) HCL.out H1.out (by unfold maxLen; have := HML.out; have := HNM.out; have := HTL.out; have := HN1.out; have := HK.out; have := HS.out.good.len; omega) (by have := HML.out; have := HNM.out; have := HTL.out; have := HN1.out; have := HK.out; have := HS.out.good.len; omega) HSZ.out ?_); intro v' w5 hrow5 hgr _ hloc)
        have e6 : (T0 ++ List.map Prod.fst [(t, b)]).length + M.length = n1 + nm := by have := HN1.out; have := HNM.out; simp; omega
        have D2 := HA4.out.more hgr (by rw [e6]; exact hrow5) hloc
        have e7 : List.map Prod.fst (F0 ++ [(t, true)] ++ M.map (fun k => (k, false))) = T0 ++ List.map Prod.fst [(t, b)] ++ M := by
          rw [List.map_append, List.map_append, HT0.out, List.map_map]
          congr 1
          exact List.map_id M
        have hbb := hbm'.out
        subst hbb
        go_roundg (mu (F0 ++ [(t, true)] ++ M.map (fun k => (k, false))))
        case measure => rw [hgk]; exact HPUSH.out.2
        case rel => exact ⟨_, N, by rw [e7]; exact D2, HPUSH.out.1, rfl, hN⟩
end Kn
end Go.Proofs.YtkiegiofholofaaGreatDoor

namespace Go.Proofs.YtkiegiofholofaaGreatDoor
open Go.RowKit Bv
namespace Tm
set_option maxHeartbeats 400000
set_option maxRecDepth 100000

theorem narrow_ok (w : Int) (h0 : 0 ≤ w) (h1 : w ≤ 255) (W : World) :
    Calls Tryz.prog 121 #[.int .i64 w] W fun e W' => e = .returned (.int .u8 w) ∧ W = W' := by
  have d0 : decide (w < (0 : Int)) = false := decide_eq_false (by omega)
  have d1 : decide ((255 : Int) < w) = false := decide_eq_false (by omega)
  go_enter Tryz.func121, Tryz.ntmps121
  go_wp2
  go_ret
  have e : IntKind.u8.wrap w = w := by simp [IntKind.wrap, IntKind.bits, IntKind.signed]; omega
  first | exact ⟨rfl, rfl⟩ | (rw [e]; exact ⟨rfl, rfl⟩) | (simp only [e]; exact ⟨rfl, rfl⟩)

theorem narrow_bad (w : Int) (h : w < 0 ∨ 255 < w) (W : World) :
    Calls Tryz.prog 121 #[.int .i64 w] W fun e W' => e = .returned (.int .u8 0) ∧ W = W' := by
  by_cases h0 : w < 0
  · have d0 : decide (w < (0 : Int)) = true := decide_eq_true (by omega)
    go_enter Tryz.func121, Tryz.ntmps121
    go_wp2
    go_ret
    exact ⟨rfl, rfl⟩
  · have d0 : decide (w < (0 : Int)) = false := decide_eq_false (by omega)
    have d1 : decide ((255 : Int) < w) = true := decide_eq_true (by omega)
    go_enter Tryz.func121, Tryz.ntmps121
    go_wp2
    go_ret
    exact ⟨rfl, rfl⟩

end Tm
end Go.Proofs.YtkiegiofholofaaGreatDoor

namespace Go.Proofs.YtkiegiofholofaaGreatDoor
open Go.RowKit Go.Maps Bv
namespace Tm
set_option maxHeartbeats 1000000
set_option maxRecDepth 100000

theorem narrow_any (w : Int) (W : World) : Calls Tryz.prog 121 #[.int .i64 w] W fun e W' => e = .returned (.int .u8 ((nar w : Nat) : Int)) ∧ W = W' := by
  by_cases h : 0 ≤ w ∧ w ≤ 255
  · have := narrow_ok w h.1 h.2 W
    rw [show ((nar w : Nat) : Int) = w by unfold nar; rw [if_pos h]; omega]
    exact this
  · rw [show nar w = 0 by unfold nar; rw [if_neg h]]
    exact narrow_bad w (by omega) W

theorem const_any {B p m : Nat} {sv : Value} {L : List Nd} {W : World} (S : StoreAt B W p m sv L) (hB : B ≤ W.heap.size) (w : Int) (n : Nat) (hn : n < 18446744073709551616) :
    Calls Tryz.prog 82 #[.pointer (some ⟨p, 0, none⟩), .int .i64 w, .int .u64 n] W (Made B p m sv L (cnd w n) W) := by
  have HM := Lib.hid (make_any (x := cnd w n) S hB (cnd_ok w hn))
  clear S hB
  go_enter Tryz.func82, Tryz.ntmps82
  go_wp2_with (first | (go_at_call 121; refine (narrow_any w _).mono ?_; rintro e w1 ⟨rfl, rfl⟩) | (go_at_call 17; refine HM.out.mono ?_; rintro e w1 ⟨rfl, hm⟩))
  exact bodyPost_ret (v := .tuple #[.int .i64 (((mk L (cnd w n)).2.1 : Nat) : Int), .int .i64 (((mk L (cnd w n)).2.2 : Nat) : Int)]) (by simp [results, Tryz.results82, go_sem]) rfl ⟨rfl, hm⟩

end Tm
end Go.Proofs.YtkiegiofholofaaGreatDoor

namespace Go.Proofs.YtkiegiofholofaaGreatDoor
open Go.RowKit Go.Maps Bv Tm Kn
namespace Ru
set_option maxHeartbeats 8000000
set_option maxRecDepth 100000

/-- Const behind what only made new memory. -/
theorem const_did {B p m : Nat} {sv : Value} {L : List Nd} {W w : World} (S : StoreAt B W p m sv L) (hB : B ≤ W.heap.size) (hb : Below W.heap.size W w) {v n : Nat} (hv : v ≤ 255) (hn : n < 18446744073709551616) :
    Calls Tryz.prog 82 #[.pointer (some ⟨p, 0, none⟩), .int .i64 ((v : Nat) : Int), .int .u64 ((n : Nat) : Int)] w (fun e w' => DidL B p m sv (mk L (cn v n)).1 (((mk L (cn v n)).2.1 : Nat) : Int) (((mk L (cn v n)).2.2 : Nat) : Int) W e w' ∧ Kept (foot p m sv) w w') := by
  have hc : cnd ((v : Nat) : Int) n = cn v n := by
    unfold cnd cn nar
    rw [if_pos (by omega), Int.toNat_natCast]
  refine (const_any (S.call hb) (Nat.le_trans hB hb.size) ((v : Nat) : Int) n hn).mono ?_
  rw [hc]
  rintro e w' ⟨he, v, S', K, hv⟩
  refine ⟨⟨he, v, S', (Kept.ofBelow hb _).trans K, ?_⟩, K⟩
  rcases hv with hv | ⟨g, hg, hv⟩
  · exact .inl hv
  · exact .inr ⟨g, Nat.le_trans hb.size hg, hv⟩

theorem ru2 {B p m b q k : Nat} {sv : Value} {L : List Nd} {x y0 y1 y2 : Nd} {W : World} (S : StoreAt B W p m sv L) (hB : B ≤ W.heap.size) (_hx : x.Ok) (A : Apart b q p m sv) (C : ClosAt W b q p k x y0 y1 y2) (hM : MayL L) (hk : L[k]? = some x) :
    Calls Tryz.prog 83 #[.pointer (some ⟨b, 0, none⟩)] W (Did B p m sv L (ou2 x.w (kn L k)) W) := by
  have hw := S.good.w x (List.mem_of_getElem? hk)
  have HW0 := Lib.hid hw
  have HB := Lib.hid hB
  have HS := Lib.hid S
  have NB := Lib.hid A.b
  have NQ := Lib.hid A.q
  have NW : Hid (¬ foot p m sv W.heap.size) := Lib.hid (fun c => Nat.lt_irrefl _ (foot_lt S c))
  clear A
  obtain ⟨z, hz⟩ : ∃ z, z = (kn L k).1 := ⟨_, rfl⟩
  obtain ⟨o, ho⟩ : ∃ o, o = (kn L k).2 := ⟨_, rfl⟩
  have HOF : Hid (∀ w, Below W.heap.size W w → Calls Tryz.prog 84 #[.pointer (some ⟨p, 0, none⟩), .int .i64 ((k : Nat) : Int)] w fun e w' => e = .returned (.tuple #[.agg #[.int .u64 ((z : Nat) : Int), .int .u64 ((o : Nat) : Int)], .int .i64 0]) ∧ Below w.heap.size w w') := Lib.hid (fun w hb => by have h := of_yes (S.call hb) hM (List.getElem?_eq_some_iff.1 hk).1; rw [← hz, ← ho] at h; exact h)
  have HMASK : Hid (∀ w : World, Calls Tryz.prog 85 #[.int .u8 ((x.w : Nat) : Int)] w fun e w' => e = .returned (.int .u64 ((2 ^ x.w - 1 : Nat) : Int)) ∧ w = w') := Lib.hid (fun w => rmask_any x.w hw.1 hw.2 w)
  have hl := kn_lt64 S.good hM (List.getElem?_eq_some_iff.1 hk).1
  rw [← hz, ← ho] at hl
  have e1 := u64_or_nat z o hl.1 hl.2
  have HL := Lib.hid hl
  clear hl
  have HCON : Hid (∀ w, Below W.heap.size W w → Calls Tryz.prog 82 #[.pointer (some ⟨p, 0, none⟩), .int .i64 ((x.w : Nat) : Int), .int .u64 ((o : Nat) : Int)] w (fun e w' => DidL B p m sv (mk L (cn x.w o)).1 (((mk L (cn x.w o)).2.1 : Nat) : Int) (((mk L (cn x.w o)).2.2 : Nat) : Int) W e w' ∧ Kept (foot p m sv) w w')) := Lib.hid (fun w hb => const_did HS.out HB.out hb (Nat.le_trans HW0.out.2 (by decide)) HL.out.2)
  have e2 : IntKind.i64.wrap ((x.w : Nat) : Int) = ((x.w : Nat) : Int) := by have := HW0.out.2; rw [IntKind.wrap_i64]; omega
  have HZ := Lib.hid hz
  have HO := Lib.hid ho
  have HW := Lib.hid hw
  have HKEEP : Hid (∀ w', Below W.heap.size W w' → w'.cell? ⟨b, 0, none⟩ = some (.pointer (some ⟨q, 0, none⟩)) ∧ w'.cell? ⟨q, 0, none⟩ = some (.pointer (some ⟨p, 0, none⟩)) ∧ w'.cell? ⟨q, 1, none⟩ = some (.int .i64 ((k : Nat) : Int)) ∧ w'.cell? ⟨q, 3, none⟩ = some (.int .u8 ((x.w : Nat) : Int))) :=
    Lib.hid (fun w' hb => ⟨(hb.cell (p := ⟨b, 0, none⟩) C.lb).trans C.fb, (hb.cell (p := ⟨q, 0, none⟩) C.s.1).trans (C.s.2 0 _ rfl), (hb.cell (p := ⟨q, 1, none⟩) C.s.1).trans (C.s.2 1 _ rfl), (hb.cell (p := ⟨q, 3, none⟩) C.s.1).trans (C.s.2 3 _ rfl)⟩)
  have lb := C.lb
  have lq := C.s.1
  have fb := C.fb
  have c0 := C.s.2 0 _ rfl
  have c1 := C.s.2 1 _ rfl
  have c3 := C.s.2 3 _ rfl
  clear C S hB _hx
  clear hM hk hz ho hw
  go_enter Tryz.func83, Tryz.ntmps83
  go_wp2_with fail
  go_region_held3 (fun w' => w'.cell? ⟨b, 0, none⟩ = some (.pointer (some ⟨q, 0, none⟩)) ∧ w'.cell? ⟨q, 0, none⟩ = some (.pointer (some ⟨p, 0, none⟩)) ∧ w'.cell? ⟨q, 1, none⟩ = some (.int .i64 ((k : Nat) : Int)) ∧ w'.cell? ⟨q, 3, none⟩ = some (.int .u8 ((x.w : Nat) : Int))) (first | exact HKEEP.out _ (by repeat (first | exact Below.refl _ _ | exact HB1.out | (refine bel_alloc ?_ _) | (refine Below.drew ?_) | (refine bel_drewN ?_ _) | (refine Below.setCell ?_ (by first | exact Nat.le_refl _ | exact HB1.out.size) _)))) (first | (go_at_call 84; with_reducible refine (HOF.out _ (by repeat (first | exact Below.refl _ _ | (refine bel_alloc ?_ _) | (refine Below.drew ?_) | (refine Below.setCell ?_ (by simp) _)))).mono ?_; rintro e w1 ⟨rfl, hb1⟩; have lw1 := Nat.le_trans (show W.heap.size ≤ _ by simp) hb1.size; have gz0 := hb1.cell (p := ⟨W.heap.size, 0, none⟩); have gz1 := hb1.cell (p := ⟨W.heap.size, 1, none⟩); have fz0 := hb1.frozen (p := ⟨W.heap.size, 0, none⟩); have fz1 := hb1.frozen (p := ⟨W.heap.size, 1, none⟩); have lz := fun h : W.heap.size < _ => Nat.lt_of_lt_of_le h hb1.size; have HB1 := Lib.hid (bel_call (show Below W.heap.size W _ from (by repeat (first | exact Below.refl _ _ | (refine bel_alloc ?_ _) | (refine Below.drew ?_) | (refine Below.setCell ?_ (by simp) _)))) hb1); have g0 := (HB1.out.cell (p := ⟨b, 0, none⟩) lb).trans fb; have g1 := (HB1.out.cell (p := ⟨q, 0, none⟩) lq).trans c0; have g3 := (HB1.out.cell (p := ⟨q, 3, none⟩) lq).trans c3; have nk : Hid (¬ foot p m sv w1.heap.size) := Lib.hid (fun c => by have := foot_lt HS.out c; have := HB1.out.size; omega); clear hb1))
  all_goals go_wp2_with fail
  all_goals go_quiet (first | (go_at_call 85; exact Calls.quiet_of_same ((HMASK.out _).mono fun _ _ h => ⟨h.1, h.2.symm⟩)))
  all_goals go_wp2_with fail
  all_goals (try go_region_held3 (fun w' => w'.cell? ⟨b, 0, none⟩ = some (.pointer (some ⟨q, 0, none⟩)) ∧ w'.cell? ⟨q, 0, none⟩ = some (.pointer (some ⟨p, 0, none⟩)) ∧ w'.cell? ⟨q, 3, none⟩ = some (.int .u8 ((x.w : Nat) : Int)) ∧ w'.cell? ⟨w1.heap.size, 1, none⟩ = some (.int .u64 ((o : Nat) : Int))) (first | (refine ⟨?_, ?_, ?_, ?_⟩ <;> go_simp)) (first | (go_at_call 82; with_reducible refine (HCON.out _ (by repeat (first | exact Below.refl _ _ | exact HB1.out | (refine bel_alloc ?_ _) | (refine Below.drew ?_) | (refine bel_drewN ?_ _) | (refine Below.setCell ?_ (by first | exact Nat.le_refl _ | exact HB1.out.size) _)))).mono ?_; rintro e w3 ⟨⟨rfl, hd⟩, hk⟩; have HD := Lib.hid hd; have y0 := hk.cell (x := ⟨b, 0, none⟩) (by simp <;> omega) NB.out; have y1 := hk.cell (x := ⟨q, 0, none⟩) (by simp <;> omega) NQ.out; have y2 := hk.cell (x := ⟨q, 3, none⟩) (by simp <;> omega) NQ.out; have y3 := hk.cell (x := ⟨w1.heap.size, 1, none⟩) (by first | (simp; done) | (simp; exact lz (by simp))) nk.out; clear hd hk)))
  all_goals (try go_region_held3 (fun w' => w'.cell? ⟨b, 0, none⟩ = some (.pointer (some ⟨q, 0, none⟩)) ∧ w'.cell? ⟨q, 0, none⟩ = some (.pointer (some ⟨p, 0, none⟩)) ∧ w'.cell? ⟨q, 3, none⟩ = some (.int .u8 ((x.w : Nat) : Int)) ∧ w'.cell? ⟨W.heap.size, 1, none⟩ = some (.int .u64 ((o : Nat) : Int))) (first | (refine ⟨?_, ?_, ?_, ?_⟩ <;> go_simp)) (first | (go_at_call 82; with_reducible refine (HCON.out _ (by repeat (first | exact Below.refl _ _ | exact HB1.out | (refine bel_alloc ?_ _) | (refine Below.drew ?_) | (refine bel_drewN ?_ _) | (refine Below.setCell ?_ (by first | exact Nat.le_refl _ | exact HB1.out.size) _)))).mono ?_; rintro e w3 ⟨⟨rfl, hd⟩, hk⟩; have HD := Lib.hid hd; have y0 := hk.cell (x := ⟨b, 0, none⟩) (by simp <;> omega) NB.out; have y1 := hk.cell (x := ⟨q, 0, none⟩) (by simp <;> omega) NQ.out; have y2 := hk.cell (x := ⟨q, 3, none⟩) (by simp <;> omega) NQ.out; have y3 := hk.cell (x := ⟨W.heap.size, 1, none⟩) (by first | (simp; done) | (simp; exact lz (by simp))) NW.out; clear hd hk)))
  all_goals (try go_wp2_with fail)
  all_goals (clear HOF HMASK HCON HKEEP c0 c1 c3 lb lq fb)
  all_goals (try simp only [bne_eq_false_iff_eq, bne_iff_ne, ne_eq] at *)
  all_goals first
    | (refine bodyPost_ret (v := .tuple #[.int .i64 (-1), .int .i64 0]) ?_ rfl (did_no ?_ rfl ?_)
       · simp [results, Tryz.results83, go_sem]
       · unfold ou2; rw [← HZ.out, ← HO.out]; (repeat' split) <;> first | rfl | (exfalso; omega)
       · (repeat (first | exact Below.refl _ _ | (refine bel_alloc ?_ _) | exact HB1.out | (refine Below.drew ?_) | (refine bel_drewN ?_ _) | (refine Below.setCell ?_ (by first | exact Nat.le_refl _ | exact HB1.out.size) _))))
    | (refine bodyPost_ret (v := _) ?_ rfl (did_make (y := cn x.w o) ?_ ⟨rfl, HD.out⟩)
       · simp [results, Tryz.results83, go_sem]
       · unfold ou2; rw [← HZ.out, ← HO.out]; (repeat' split) <;> first | rfl | (exfalso; omega))
end Ru
end Go.Proofs.YtkiegiofholofaaGreatDoor
