/-
The bits of a node that are sure, of a store that was made: a fact on one call.
Of layer known refuses: of a number that no node has, of no store: each as a fact on one call.
A width cut to a byte, as a fact on one call.
Const of layer term, of a store that was made.
Const and Var of layer term, of a store that was made, of none and of a zero one.
Vars of a number that no node has; New with its store; what a call that makes a node leaves; a row of numbers read in its places.
The statements' own small check of layer known, as a fact on one call.
-/
import Derived.Test.YtigjbngedbbdbaaPt12
import Derived.Deep.LoopGhost
import Derived.Test.YtigjbngedbbdbaaPt09
import Derived.Test.YtigjbngedbbdbaaPt02
import Derived.BigQuiet
namespace Go.Proofs.Ytigjbngedbbdbaa
open Go.RowKit Go.Maps Bv Tm
namespace Kn
set_option maxHeartbeats 2000000
set_option maxRecDepth 100000

theorem of_yes {B p m k : Nat} {sv : Value} {L : List Nd} {W : World} (S : StoreAt B W p m sv L) (hM : MayL L) (hk : k < L.length) :
    Calls Try.prog 7 #[.pointer (some ⟨p, 0, none⟩), .int .i64 ((k : Nat) : Int)] W fun e W' => e = .returned (.tuple #[.agg #[.int .u64 (((kn L k).1 : Nat) : Int), .int .u64 (((kn L k).2 : Nat) : Int)], .int .i64 0]) ∧ Below W.heap.size W W' := by
  obtain ⟨x, hx⟩ : ∃ x, L[k]? = some x := ⟨_, List.getElem?_eq_getElem hk⟩
  have HS := Lib.hid S
  have HX := Lib.hid hx
  have HM := Lib.hid hM
  have HK := Lib.hid hk
  clear S hx hM hk
  have HB0 := Lib.hid (bel_alloc (Below.refl W.heap.size W) (.cells #[.int .u64 0, .int .u64 0] 29))
  have hmm := @run_makeMap Try.prog
  go_enter Try.func7, Try.ntmps7
  go_wp2_with fail
  refine (node_yes (HS.out.call HB0.out) HX.out).mono ?_
  rintro e w1 ⟨rfl, hb1⟩
  have a0 : w1.cell? ⟨W.heap.size, 0, none⟩ = some (.int .u64 0) := (hb1.cell (p := ⟨W.heap.size, 0, none⟩) (by simp)).trans (by simp [go_sem])
  have a1 : w1.cell? ⟨W.heap.size, 1, none⟩ = some (.int .u64 0) := (hb1.cell (p := ⟨W.heap.size, 1, none⟩) (by simp)).trans (by simp [go_sem])
  have fr : ∀ o, w1.frozen? ⟨W.heap.size, o, none⟩ = false := fun o => (hb1.frozen (p := ⟨W.heap.size, o, none⟩) (by simp)).trans (by simp [go_sem])
  have al : W.heap.size < w1.heap.size := by have := hb1.size; simp at this; omega
  have HB1 := Lib.hid (bel_call HB0.out hb1)
  obtain ⟨xo, xw, x0, x1, x2, xn, xl⟩ := x
  unfold Nd.val
  clear hb1
  have hb2 : Below W.heap.size W (((w1.alloc (.cells #[.int .u8 ((xo : Nat) : Int), .int .u8 ((xw : Nat) : Int), .int .i64 x0, .int .i64 x1, .int .i64 x2, .int .u64 ((xn : Nat) : Int), .int .u8 ((xl : Nat) : Int)] 57)).alloc (.map #[] 0)).alloc (.cells #[.int .i64 ((k : Nat) : Int)] 3)) := bel_alloc (bel_alloc (bel_alloc HB1.out _) _) _
  have HST : Hid (OfRel W L W.heap.size (w1.heap.size + 1) k (mu L [k] []) (.slice (some ⟨w1.heap.size + 1 + 1, 0, none⟩) 1 1) (((w1.alloc (.cells #[.int .u8 ((xo : Nat) : Int), .int .u8 ((xw : Nat) : Int), .int .i64 x0, .int .i64 x1, .int .i64 x2, .int .u64 ((xn : Nat) : Int), .int .u8 ((xl : Nat) : Int)] 57)).alloc (.map #[] 0)).alloc (.cells #[.int .i64 ((k : Nat) : Int)] 3))) := by
    refine Lib.hid ⟨[k], [], ⟨?_, ?_, by omega, hb2, ?_, ?_, fun o => ?_, ?_, Nat.le_refl _, by omega, ?_, ?_⟩, inv_start HK.out, rfl⟩
    · have := row_new ((w1.alloc (.cells #[.int .u8 ((xo : Nat) : Int), .int .u8 ((xw : Nat) : Int), .int .i64 x0, .int .i64 x1, .int .i64 x2, .int .u64 ((xn : Nat) : Int), .int .u8 ((xl : Nat) : Int)] 57)).alloc (.map #[] 0)) ((k : Nat) : Int) W.heap.size (by rw [size_alloc, size_alloc]; omega)
      rw [size_alloc, size_alloc] at this
      exact this
    · refine MapAt.same (w := (w1.alloc (.cells #[.int .u8 ((xo : Nat) : Int), .int .u8 ((xw : Nat) : Int), .int .i64 x0, .int .i64 x1, .int .i64 x2, .int .u64 ((xn : Nat) : Int), .int .u8 ((xl : Nat) : Int)] 57)).alloc (.map #[] 0)) ⟨.map [], ?_, kbTab_nil L⟩ (Below.heap_alloc _ _ _ (by simp))
      have := World.ownsMap_made (H := Unit) (w1.alloc (.cells #[.int .u8 ((xo : Nat) : Int), .int .u8 ((xw : Nat) : Int), .int .i64 x0, .int .i64 x1, .int .i64 x2, .int .u64 ((xn : Nat) : Int), .int .u8 ((xl : Nat) : Int)] 57)) Try.prog 3 kbElem
      rw [size_alloc] at this
      exact this
    · rw [World.cell?_alloc_lt _ _ _ (by simp; omega), World.cell?_alloc_lt _ _ _ (by simp; omega), World.cell?_alloc_lt _ _ _ al]; exact a0
    · rw [World.cell?_alloc_lt _ _ _ (by simp; omega), World.cell?_alloc_lt _ _ _ (by simp; omega), World.cell?_alloc_lt _ _ _ al]; exact a1
    · rw [World.frozen?_alloc_old _ _ _ (by simp; omega), World.frozen?_alloc_old _ _ _ (by simp; omega), World.frozen?_alloc_old _ _ _ (by simp; omega)]; exact fr o
    · simp; omega
    · simp [Value.ownBlock]
    · simp [Value.ownBlock]; omega
  clear hb2 a0 a1 fr HB1
  go_wp2_with fail
  go_loopg [9] (mu L [k] []) (fun gk u9 wr => OfRel W L W.heap.size (w1.heap.size + 1) k gk u9 wr)
  case atStart => exact HST.out
  case round =>
    obtain ⟨bm, hbm⟩ : ∃ bm, w1.heap.size + 1 = bm := ⟨_, rfl⟩
    obtain ⟨F, N, hA, hI, hgk⟩ := hrel
    rw [hbm] at hA
    clear HST
    rcases List.eq_nil_or_concat F with rfl | ⟨T0, t, hF⟩
    · clear hmm
      obtain ⟨a, c, rfl⟩ : ∃ a c, u9 = .slice a 0 c := by
        rcases hA.row with ⟨_, ⟨h1, h2⟩ | ⟨g, cap, cur, hv, _⟩⟩
        · exact ⟨none, 0, h1⟩
        · exact ⟨_, _, hv⟩
      have hkn : k ∈ N := by
        rcases hI.bot with c | hc
        · exact c
        · simp at hc
      have hk6 : I64 ((k : Nat) : Int) := by have := HK.out; have := HS.out.good.len; unfold I64; omega
      have hl := hA.map.look hk6
      unfold lkV at hl
      rw [lkB_in (by omega) (by simpa using hkn), Int.toNat_natCast] at hl
      have a0 := hA.a0
      have a1 := hA.a1
      have f0 := hA.fr 0
      have f1 := hA.fr 1
      have la := hA.al
      have HBE := Lib.hid hA.bel
      have hf1 := field_1 ((lkW L N ((k : Nat) : Int) : Nat) : Int) (((kn L k).1 : Nat) : Int) (((kn L k).2 : Nat) : Int)
      have hf2 := field_2 ((lkW L N ((k : Nat) : Int) : Nat) : Int) (((kn L k).1 : Nat) : Int) (((kn L k).2 : Nat) : Int)
      clear hA hI hkn hk6
      go_wp2_with fail
      exact bodyPost_ret (v := .tuple #[.agg #[.int .u64 (((kn L k).1 : Nat) : Int), .int .u64 (((kn L k).2 : Nat) : Int)], .int .i64 0]) (by simp [results, Try.results7, go_sem, a0, a1]) rfl ⟨rfl, (HBE.out.setCell (Nat.le_refl _) _).setCell (Nat.le_refl _) _⟩
    · rw [List.concat_eq_append] at hF
      subst hF
      have htl : t < L.length := by have := (hI.fin t (by simp)).1; have := hI.idl; omega
      obtain ⟨y, hy⟩ : ∃ y, L[t]? = some y := ⟨_, List.getElem?_eq_getElem htl⟩
      have hTl := hI.len
      simp only [List.length_append, List.length_singleton] at hTl
      obtain ⟨g, c, rfl, hc, lg, hlast, gbm, gA⟩ := OfAt.last hA
      have HA := Lib.hid hA
      have HI := Lib.hid hI
      have HY := Lib.hid hy
      have HTL := Lib.hid hTl
      have hlen := HS.out.good.len
      obtain ⟨n1, hn1⟩ : ∃ n1, n1 = T0.length + 1 := ⟨_, rfl⟩
      obtain ⟨n0, hn0⟩ : ∃ n0, n0 = T0.length := ⟨_, rfl⟩
      have HN1 := Lib.hid hn1
      have HN0 := Lib.hid hn0
      have hk3 := HK.out
      have q0 : (0 : Int) < ((n1 : Nat) : Int) := by omega
      have q1 : IntKind.i64.wrap (((n1 : Nat) : Int) - 1) = ((n0 : Nat) : Int) := by rw [IntKind.wrap_i64]; omega
      have q1' : wrap64 (((n1 : Nat) : Int) - 1) = ((n0 : Nat) : Int) := by unfold wrap64; rw [← IntKind.wrap_i64]; exact q1
      have q2 : ((n0 : Nat) : Int) < ((n1 : Nat) : Int) := by omega
      have q3 : (0 : Int) ≤ ((n0 : Nat) : Int) := by omega
      have q4 : ((n0 : Nat) : Int) ≤ ((c : Nat) : Int) := by omega
      have e1 : (Value.slice (some ⟨g, 0, none⟩) (T0.length + 1) c) = .slice (some ⟨g, 0, none⟩) n1 c := by rw [hn1]
      simp only [e1]
      rw [← hn0] at hlast
      have HBM := Lib.hid hbm
      have HBB := Lib.hid (And.intro gbm gA)
      clear hA hI hy hTl hlen hn1 hn0 hk3 e1 hc gbm gA htl hmm
      have hbm' := Lib.hid hbm
      simp only [hbm]
      clear hbm
      go_wp2_with fail
      refine (node_yes (HS.out.call HA.out.bel) HY.out).mono ?_
      rintro e w2 ⟨rfl, hb2⟩
      obtain ⟨yo, yw, y0, y1, y2, yn, yl⟩ := y
      unfold Nd.val
      have hlast2 : w2.cell? ⟨g, n0, none⟩ = some (.int .i64 ((t : Nat) : Int)) := (hb2.cell (p := ⟨g, n0, none⟩) lg).trans hlast
      have lg2 : g < w2.heap.size := Nat.lt_of_lt_of_le lg hb2.size
      have HA2 := Lib.hid (HA.out.call hb2)
      have HBX2 := Lib.hid (At7.new w2 (.int .u8 ((yo : Nat) : Int)) (.int .u8 ((yw : Nat) : Int)) (.int .i64 y0) (.int .i64 y1) (.int .i64 y2) (.int .u64 ((yn : Nat) : Int)) (.int .u8 ((yl : Nat) : Int)) 57)
      have HA3 := Lib.hid (HA2.out.call (bel_alloc (Below.refl _ _) (.cells #[.int .u8 ((yo : Nat) : Int), .int .u8 ((yw : Nat) : Int), .int .i64 y0, .int .i64 y1, .int .i64 y2, .int .u64 ((yn : Nat) : Int), .int .u8 ((yl : Nat) : Int)] 57)))
      have HMISS := Lib.hid (pick_any (x := ⟨yo, yw, y0, y1, y2, yn, yl⟩) HA3.out.map (mayN_op (HM.out t _ HY.out)).2 (fun j hj => by
        have h1 := mayL_kids HM.out HY.out j (Nat.lt_of_lt_of_le hj (ka_le _))
        have h2 := (List.getElem?_eq_some_iff.1 HY.out).1
        have h3 := HS.out.good.len
        omega) (fun q => by
        unfold lkB
        split
        · rename_i hc
          exact kn_lt64 HS.out.good HM.out (HI.out.nin _ hc.2)
        · exact ⟨by decide, by decide⟩))
      unfold Nd.val at HMISS
      clear hb2 hlast lg
      go_wp2_with fail
      refine HMISS.out.mono ?_
      rintro e w4 ⟨hmi, hb4⟩
      have HA4 := Lib.hid (HA3.out.call hb4)
      have HBX4 := Lib.hid (HBX2.out.keep hb4)
      have hlast4 : w4.cell? ⟨g, n0, none⟩ = some (.int .i64 ((t : Nat) : Int)) := (hb4.cell (p := ⟨g, n0, none⟩) (by simp; omega)).trans ((World.cell?_alloc_lt _ _ _ lg2).trans hlast2)
      have lg4 : g < w4.heap.size := by have := hb4.size; simp at this; omega
      have l4 : w2.heap.size < w4.heap.size := by have := hb4.size; simp at this; omega
      have HW2 : Hid (¬ w2.heap.size = bm) := Lib.hid (by have := HA2.out.map.lt; omega)
      clear HMISS HA2 HA3 HBX2 hlast2 hb4 lg2
      rcases hmi with ⟨kk, rfl, hkk, hkn⟩ | ⟨rfl, hrdy⟩
      case inr =>
        have HPOP := Lib.hid HI.out.pop
        have HS4 := Lib.hid ((⟨hlast4, lg4, HBX4.out⟩ : OfS g n0 t w2.heap.size _ _ _ _ _ _ _ w4).call (Below.refl _ _).drew)
        have HSURE := Lib.hid (sure_ready (x := ⟨yo, yw, y0, y1, y2, yn, yl⟩) (W := w4.drew) (HS.out.call HA4.out.bel.drew) HM.out HY.out (HA4.out.map.same rfl) HI.out.nin hrdy)
        unfold Nd.val at HSURE
        have HA4D := Lib.hid (HA4.out.call (Below.refl _ _).drew)
        have hwid : widAt L ((t : Nat) : Int) = yw := by unfold widAt; rw [Int.toNat_natCast, HY.out]; rfl
        have HWID := Lib.hid hwid
        have ht2 : t < 200001 := by have := (List.getElem?_eq_some_iff.1 HY.out).1; have := HS.out.good.len; omega
        have HT2 := Lib.hid ht2
        have HNN : Hid (N.length ≤ 200000) := Lib.hid (Nat.le_trans HI.out.nlen HS.out.good.len)
        clear hwid ht2 HBX4 hrdy
        go_wp2_with fail
        refine wp_region_held_drew (S := OfS g n0 t w2.heap.size _ _ _ _ _ _ _) (by kernel_rfl) HS4.out (fun hHeld => ?_)
        refine wpAnyH_take (i := 0) (v := .map (some bm)) (by simp only [List.getElem?_toArray, List.getElem?_cons_zero]; rfl) (by kernel_rfl) (by kernel_rfl) (by kernel_rfl) (by exact fun _ _ _ h => h) (Or.inl ⟨by rfl, ?_⟩) hHeld ?_
        · intro w' hSw
          obtain ⟨s0, s1, s2⟩ := hSw; have lbx := s2.lt; unfold At7 at s2; obtain ⟨_, m0, m1, m2, m3, m4, m5, m6⟩ := And.intro trivial s2; go_simp; try rfl
        simp only [Act.put, List.setIfInBounds_toArray, List.set_cons_zero, List.set_cons_succ]
        refine wpAnyH_take (i := 1) (v := .slice (some ⟨g, 0, none⟩) n1 c) (by simp only [List.getElem?_toArray, List.getElem?_cons_zero, List.getElem?_cons_succ]; rfl) (by kernel_rfl) (by kernel_rfl) (by kernel_rfl) (by exact fun _ _ _ h => h) (Or.inl ⟨by rfl, ?_⟩) hHeld ?_
        · intro w' hSw
          obtain ⟨s0, s1, s2⟩ := hSw; have lbx := s2.lt; unfold At7 at s2; obtain ⟨_, m0, m1, m2, m3, m4, m5, m6⟩ := And.intro trivial s2; go_simp; try rfl
        simp only [Act.put, List.setIfInBounds_toArray, List.set_cons_zero, List.set_cons_succ]
        refine wpAnyH_take (i := 2) (v := .int .i64 ((n0 : Nat) : Int)) (by simp only [List.getElem?_toArray, List.getElem?_cons_zero, List.getElem?_cons_succ]; rfl) (by kernel_rfl) (by kernel_rfl) (by kernel_rfl) (by exact fun _ _ _ h => h) (Or.inl ⟨by rfl, ?_⟩) hHeld ?_
        · intro w' hSw
          obtain ⟨s0, s1, s2⟩ := hSw; have lbx := s2.lt; unfold At7 at s2; obtain ⟨_, m0, m1, m2, m3, m4, m5, m6⟩ := And.intro trivial s2; go_simp; try rfl
        simp only [Act.put, List.setIfInBounds_toArray, List.set_cons_zero, List.set_cons_succ]
        refine wpAnyH_take (i := 3) (v := .pointer (some ⟨g, n0, none⟩)) (by simp only [List.getElem?_toArray, List.getElem?_cons_zero, List.getElem?_cons_succ]; rfl) (by kernel_rfl) (by kernel_rfl) (by kernel_rfl) (by exact fun _ _ _ h => h) (Or.inl ⟨by rfl, ?_⟩) hHeld ?_
        · intro w' hSw
          obtain ⟨s0, s1, s2⟩ := hSw; have lbx := s2.lt; unfold At7 at s2; obtain ⟨_, m0, m1, m2, m3, m4, m5, m6⟩ := And.intro trivial s2; go_simp; try rfl
        simp only [Act.put, List.setIfInBounds_toArray, List.set_cons_zero, List.set_cons_succ]
        refine wpAnyH_take (i := 4) (v := .int .i64 ((t : Nat) : Int)) (by simp only [List.getElem?_toArray, List.getElem?_cons_zero, List.getElem?_cons_succ]; rfl) (by kernel_rfl) (by kernel_rfl) (by kernel_rfl) (by exact fun _ _ _ h => h) (Or.inl ⟨by rfl, ?_⟩) hHeld ?_
        · intro w' hSw
          obtain ⟨s0, s1, s2⟩ := hSw; have lbx := s2.lt; unfold At7 at s2; obtain ⟨_, m0, m1, m2, m3, m4, m5, m6⟩ := And.intro trivial s2; go_simp; try rfl
        simp only [Act.put, List.setIfInBounds_toArray, List.set_cons_zero, List.set_cons_succ]
        refine wpAnyH_take (i := 5) (v := .pointer (some ⟨p, 0, none⟩)) (by simp only [List.getElem?_toArray, List.getElem?_cons_zero, List.getElem?_cons_succ]; rfl) (by kernel_rfl) (by kernel_rfl) (by kernel_rfl) (by exact fun _ _ _ h => h) (Or.inl ⟨by rfl, ?_⟩) hHeld ?_
        · intro w' hSw
          obtain ⟨s0, s1, s2⟩ := hSw; have lbx := s2.lt; unfold At7 at s2; obtain ⟨_, m0, m1, m2, m3, m4, m5, m6⟩ := And.intro trivial s2; go_simp; try rfl
        simp only [Act.put, List.setIfInBounds_toArray, List.set_cons_zero, List.set_cons_succ]
        refine wpAnyH_take (i := 6) (v := .agg #[.int .u8 ((yo : Nat) : Int), .int .u8 ((yw : Nat) : Int), .int .i64 y0, .int .i64 y1, .int .i64 y2, .int .u64 ((yn : Nat) : Int), .int .u8 ((yl : Nat) : Int)]) (by simp only [List.getElem?_toArray, List.getElem?_cons_zero, List.getElem?_cons_succ]; rfl) (by kernel_rfl) (by kernel_rfl) (by kernel_rfl) (by exact fun _ _ _ h => h) (Or.inl ⟨by rfl, ?_⟩) hHeld ?_
        · intro w' hSw
          obtain ⟨s0, s1, s2⟩ := hSw; have lbx := s2.lt; unfold At7 at s2; obtain ⟨_, m0, m1, m2, m3, m4, m5, m6⟩ := And.intro trivial s2; go_simp; try rfl
        simp only [Act.put, List.setIfInBounds_toArray, List.set_cons_zero, List.set_cons_succ]
        refine wpAnyH_take (i := 7) (v := .map (some bm)) (by simp only [List.getElem?_toArray, List.getElem?_cons_zero, List.getElem?_cons_succ]; rfl) (by kernel_rfl) (by kernel_rfl) (by kernel_rfl) (by exact fun _ _ _ h => h) (Or.inl ⟨by rfl, ?_⟩) hHeld ?_
        · intro w' hSw
          obtain ⟨s0, s1, s2⟩ := hSw; have lbx := s2.lt; unfold At7 at s2; obtain ⟨_, m0, m1, m2, m3, m4, m5, m6⟩ := And.intro trivial s2; go_simp; try rfl
        simp only [Act.put, List.setIfInBounds_toArray, List.set_cons_zero, List.set_cons_succ]
        refine wpAnyH_ready (rs := [8]) (by kernel_rfl) (by simp) ?_
        refine AllReadyH.cons (by simp only [List.getElem?_toArray, List.getElem?_cons_zero, List.getElem?_cons_succ]; rfl) (fun K hK => ?_) AllReadyH.nil
        go_simp
        refine HSURE.out.mono ?_
        rintro e w5 ⟨rfl, hb5⟩
        have HA5 := HA4D.out.call hb5
        obtain ⟨w6, hrun, hA6, hK6⟩ := HA5.put HT2.out HNN.out (key := .int .i64 ((t : Nat) : Int)) (val := .agg #[.int .u8 ((yw : Nat) : Int), .int .u64 (((kn L t).1 : Nat) : Int), .int .u64 (((kn L t).2 : Nat) : Int)]) rfl (by rw [HWID.out])
        have HA6 := Lib.hid hA6
        have HK6 := Lib.hid hK6
        have hcl := hHeld.call hb5
        have HCL := Lib.hid (hcl.kept hK6 HBB.out.1 HW2.out)
        refine hK.out _ _ hcl (fun hHeld => ?_)
        clear hK K hb5 HA5 hA6 hK6 hcl
        try simp only [Act.put, List.setIfInBounds_toArray, List.set_cons_zero, List.set_cons_succ]
        refine wpAnyH_ready (rs := [9]) (by kernel_rfl) (by simp) ?_
        refine AllReadyH.cons (by simp only [List.getElem?_toArray, List.getElem?_cons_zero, List.getElem?_cons_succ]; rfl) (fun K hK => ?_) AllReadyH.nil
        go_simp
        refine hK.out _ _ HCL.out (fun hHeld => ?_)
        clear hK K hrun
        try simp only [Act.put, List.setIfInBounds_toArray, List.set_cons_zero, List.set_cons_succ]
        refine wpAnyH_done (by kernel_rfl) ?_ _
        go_wp2_with fail
        have hbb := hbm'.out
        subst hbb
        go_roundg (mu L T0 (addK N t))
        case measure => rw [hgk]; exact HPOP.out.2
        case rel =>
          have hd := HA6.out.drop
          rw [← HN0.out] at hd
          exact ⟨T0, addK N t, hd, HPOP.out.1, rfl⟩
      case inl =>
        have hkt : kk < t := by
          obtain ⟨j, hj, e⟩ := hkk
          have := mayL_kids HM.out HY.out j (Nat.lt_of_lt_of_le hj (ka_le _))
          omega
        have HPUSH := Lib.hid (HI.out.push hkt hkn)
        have HA5 := Lib.hid (HA4.out.call (bel_alloc (Below.refl w4.heap.size w4) (.cells #[.int .i64 ((kk : Nat) : Int)] 3)))
        have hc1 := cell_one_new w4 (.int .i64 ((kk : Nat) : Int)) 3
        have HC1 := Lib.hid hc1
        have H1 := Lib.hid (show ∀ u ∈ [Value.int .i64 ((kk : Nat) : Int)], u.oneCell' = true by intro u hu; simp at hu; subst hu; rfl)
        have HROW := Lib.hid HA5.out.row
        have hzz : ((T0 ++ [t]).length) = n1 := by have := HN1.out; simp; omega
        have HSZ := Lib.hid HA5.out.bel.size
        obtain ⟨i0, hinfo, hz0, hz1, hz2⟩ := info_parts info_int
        rw [hzz, ← HN1.out] at HROW
        have HZZ := Lib.hid hzz
        clear hkk hkn hkt hc1 hzz
        go_wp2_with (at_builtin; go_loud (refine wpList_append_own_at _ rfl (.tmp 50) (.tmp 52) 61 rfl W.heap.size 3 i0 (.int .i64 0) 1 8 Try.underlying61 hinfo hz0 hz1 hz2 rfl (by decide) (.slice (some ⟨g, 0, none⟩) n1 c) n1 (todoRow (T0 ++ [t])) rfl HROW.out ⟨w4.heap.size, 0, none⟩ 1 1 [.int .i64 ((kk : Nat) : Int)] rfl rfl HC1.out H1.out (by unfold maxLen; have := HTL.out; have := HN1.out; have := HK.out; have := HS.out.good.len; omega) (by have := HTL.out; have := HN1.out; have := HK.out; have := HS.out.good.len; omega) HSZ.out ?_); intro v' w5 hrow5 hgr _ hloc)
        have e6 : (T0 ++ [t]).length + [kk].length = n1 + 1 := by have := HN1.out; simp; omega
        have D2 := HA5.out.more (M := [kk]) hgr (by rw [e6]; exact hrow5) hloc
        have hbb := hbm'.out
        subst hbb
        go_roundg (mu L (T0 ++ [t] ++ [kk]) N)
        case measure => rw [hgk]; exact HPUSH.out.2
        case rel => exact ⟨_, N, D2, HPUSH.out.1, rfl⟩
end Kn
end Go.Proofs.Ytigjbngedbbdbaa

namespace Go.Proofs.Ytigjbngedbbdbaa
open Go.RowKit Go.Maps Bv Tm
namespace Kn
set_option maxHeartbeats 800000
set_option maxRecDepth 100000

theorem of_err {ptr : Value} {id : Int} {er : Nat} {nd : Value} {W : World} (her : er ≠ 0) (hnd : ∃ a b c d e f g : Int, nd = .agg #[.int .u8 a, .int .u8 b, .int .i64 c, .int .i64 d, .int .i64 e, .int .u64 f, .int .u8 g])
    (hn : ∀ v, Below W.heap.size W v → Calls Try.prog 15 #[ptr, .int .i64 id] v fun e v' => e = .returned (.tuple #[nd, .int .i64 ((er : Nat) : Int)]) ∧ Below v.heap.size v v') :
    Calls Try.prog 7 #[ptr, .int .i64 id] W fun e W' => e = .returned (.tuple #[.agg #[.int .u64 0, .int .u64 0], .int .i64 ((er : Nat) : Int)]) ∧ Below W.heap.size W W' := by
  obtain ⟨a, b, c, d, e, f, g, rfl⟩ := hnd
  have HB0 := Lib.hid (bel_alloc (Below.refl W.heap.size W) (.cells #[.int .u64 0, .int .u64 0] 29))
  have HN := Lib.hid (hn _ HB0.out)
  have d0 : (((er : Nat) : Int) != 0) = true := by simp; omega
  have d1 : ¬ ((er : Nat) : Int) = 0 := by omega
  clear hn her
  go_enter Try.func7, Try.ntmps7
  go_wp2_with fail
  refine HN.out.mono ?_
  rintro e w1 ⟨rfl, hb1⟩
  have a0 : w1.cell? ⟨W.heap.size, 0, none⟩ = some (.int .u64 0) := (hb1.cell (p := ⟨W.heap.size, 0, none⟩) (by simp)).trans (by simp [go_sem])
  have a1 : w1.cell? ⟨W.heap.size, 1, none⟩ = some (.int .u64 0) := (hb1.cell (p := ⟨W.heap.size, 1, none⟩) (by simp)).trans (by simp [go_sem])
  have f0 : w1.frozen? ⟨W.heap.size, 0, none⟩ = false := (hb1.frozen (p := ⟨W.heap.size, 0, none⟩) (by simp)).trans (by simp [go_sem])
  have f1 : w1.frozen? ⟨W.heap.size, 1, none⟩ = false := (hb1.frozen (p := ⟨W.heap.size, 1, none⟩) (by simp)).trans (by simp [go_sem])
  have al : W.heap.size < w1.heap.size := by have := hb1.size; simp at this; omega
  have HB1 := Lib.hid (bel_call HB0.out hb1)
  clear hb1
  go_wp2_with fail
  exact bodyPost_ret (v := .tuple #[.agg #[.int .u64 0, .int .u64 0], .int .i64 ((er : Nat) : Int)]) (by simp [results, Try.results7, go_sem, a0, a1, al]) rfl ⟨rfl, by first | exact (bel_alloc ((HB1.out.setCell (Nat.le_refl _) _).setCell (Nat.le_refl _) _) _) | exact (((bel_alloc HB1.out _).setCell (Nat.le_refl _) _).setCell (Nat.le_refl _) _)⟩

theorem of_no {B p m : Nat} {id : Int} {sv : Value} {L : List Nd} {W : World} (S : StoreAt B W p m sv L) (hi : inB L id = false) :
    Calls Try.prog 7 #[.pointer (some ⟨p, 0, none⟩), .int .i64 id] W fun e W' => e = .returned (.tuple #[.agg #[.int .u64 0, .int .u64 0], .int .i64 2]) ∧ Below W.heap.size W W' :=
  of_err (er := 2) (by decide) ⟨_, _, _, _, _, _, _, rfl⟩ (fun _ hv => node_no (S.call hv) hi)
theorem of_none (ptr : Value) (id : Int) (W : World) (h : NoneAt W ptr) :
    Calls Try.prog 7 #[ptr, .int .i64 id] W fun e W' => e = .returned (.tuple #[.agg #[.int .u64 0, .int .u64 0], .int .i64 1]) ∧ Below W.heap.size W W' :=
  of_err (er := 1) (by decide) ⟨_, _, _, _, _, _, _, rfl⟩ (fun v hv => node_none ptr id v (h.keep hv))
end Kn
end Go.Proofs.Ytigjbngedbbdbaa

namespace Go.Proofs.Ytigjbngedbbdbaa
open Go.RowKit Bv
namespace Tm
set_option maxHeartbeats 400000
set_option maxRecDepth 100000

theorem narrow_ok (w : Int) (h0 : 0 ≤ w) (h1 : w ≤ 255) (W : World) :
    Calls Try.prog 41 #[.int .i64 w] W fun e W' => e = .returned (.int .u8 w) ∧ W = W' := by
  have d0 : decide (w < (0 : Int)) = false := decide_eq_false (by omega)
  have d1 : decide ((255 : Int) < w) = false := decide_eq_false (by omega)
  go_enter Try.func41, Try.ntmps41
  go_wp2
  go_ret
  have e : IntKind.u8.wrap w = w := by simp [IntKind.wrap, IntKind.bits, IntKind.signed]; omega
  first | exact ⟨rfl, rfl⟩ | (rw [e]; exact ⟨rfl, rfl⟩) | (simp only [e]; exact ⟨rfl, rfl⟩)

theorem narrow_bad (w : Int) (h : w < 0 ∨ 255 < w) (W : World) :
    Calls Try.prog 41 #[.int .i64 w] W fun e W' => e = .returned (.int .u8 0) ∧ W = W' := by
  by_cases h0 : w < 0
  · have d0 : decide (w < (0 : Int)) = true := decide_eq_true (by omega)
    go_enter Try.func41, Try.ntmps41
    go_wp2
    go_ret
    exact ⟨rfl, rfl⟩
  · have d0 : decide (w < (0 : Int)) = false := decide_eq_false (by omega)
    have d1 : decide ((255 : Int) < w) = true := decide_eq_true (by omega)
    go_enter Try.func41, Try.ntmps41
    go_wp2
    go_ret
    exact ⟨rfl, rfl⟩

end Tm
end Go.Proofs.Ytigjbngedbbdbaa

namespace Go.Proofs.Ytigjbngedbbdbaa
open Go.RowKit Go.Maps Bv
namespace Tm
set_option maxHeartbeats 1000000
set_option maxRecDepth 100000

theorem narrow_any (w : Int) (W : World) : Calls Try.prog 41 #[.int .i64 w] W fun e W' => e = .returned (.int .u8 ((nar w : Nat) : Int)) ∧ W = W' := by
  by_cases h : 0 ≤ w ∧ w ≤ 255
  · have := narrow_ok w h.1 h.2 W
    rw [show ((nar w : Nat) : Int) = w by unfold nar; rw [if_pos h]; omega]
    exact this
  · rw [show nar w = 0 by unfold nar; rw [if_neg h]]
    exact narrow_bad w (by omega) W

theorem const_any {B p m : Nat} {sv : Value} {L : List Nd} {W : World} (S : StoreAt B W p m sv L) (hB : B ≤ W.heap.size) (w : Int) (n : Nat) (hn : n < 18446744073709551616) :
    Calls Try.prog 21 #[.pointer (some ⟨p, 0, none⟩), .int .i64 w, .int .u64 n] W (Made B p m sv L (cnd w n) W) := by
  have HM := Lib.hid (make_any (x := cnd w n) S hB (cnd_ok w hn))
  clear S hB
  go_enter Try.func21, Try.ntmps21
  go_wp2_with (first | (go_at_call 41; refine (narrow_any w _).mono ?_; rintro e w1 ⟨rfl, rfl⟩) | (go_at_call 13; refine HM.out.mono ?_; rintro e w1 ⟨rfl, hm⟩))
  exact bodyPost_ret (v := .tuple #[.int .i64 (((mk L (cnd w n)).2.1 : Nat) : Int), .int .i64 (((mk L (cnd w n)).2.2 : Nat) : Int)]) (by simp [results, Try.results21, go_sem]) rfl ⟨rfl, hm⟩

end Tm
end Go.Proofs.Ytigjbngedbbdbaa

namespace Go.Proofs.Ytigjbngedbbdbaa
open Go.RowKit Go.Maps Bv
namespace Tm
set_option maxHeartbeats 1000000
set_option maxRecDepth 100000

theorem var_any {B p m : Nat} {sv : Value} {L : List Nd} {W : World} (S : StoreAt B W p m sv L) (hB : B ≤ W.heap.size) (w : Int) (n : Int) :
    Calls Try.prog 20 #[.pointer (some ⟨p, 0, none⟩), .int .i64 w, .int .i64 n] W (Made B p m sv L (vnd w n) W) := by
  have HM := Lib.hid (make_any (x := vnd w n) S hB (vnd_ok w n))
  have e : (vnd w n).val = .agg #[.int .u8 2, .int .u8 ((nar w : Nat) : Int), .int .i64 0, .int .i64 0, .int .i64 0, .int .u64 (IntKind.u64.wrap n), .int .u8 0] := by
    unfold vnd Nd.val
    simp [u64_is]
  rw [e] at HM
  clear S hB e
  go_enter Try.func20, Try.ntmps20
  go_wp2_with (first | (go_at_call 41; refine (narrow_any w _).mono ?_; rintro e w1 ⟨rfl, rfl⟩) | (go_at_call 13; refine HM.out.mono ?_; rintro e w1 ⟨rfl, hm⟩))
  exact bodyPost_ret (v := .tuple #[.int .i64 (((mk L (vnd w n)).2.1 : Nat) : Int), .int .i64 (((mk L (vnd w n)).2.2 : Nat) : Int)]) (by simp [results, Try.results20, go_sem]) rfl ⟨rfl, hm⟩

theorem const_none (ptr : Value) (w : Int) (n : Nat) (W : World) (h : NoneAt W ptr) :
    Calls Try.prog 21 #[ptr, .int .i64 w, .int .u64 n] W fun e W' => e = .returned (.tuple #[.int .i64 0, .int .i64 1]) ∧ Below W.heap.size W W' := by
  have HM := Lib.hid (make_none ptr (cnd w n) W h)
  clear h
  go_enter Try.func21, Try.ntmps21
  go_wp2_with (first | (go_at_call 41; refine (narrow_any w _).mono ?_; rintro e w1 ⟨rfl, rfl⟩) | (go_at_call 13; refine HM.out.mono ?_; rintro e w1 ⟨rfl, hb⟩))
  exact bodyPost_ret (v := .tuple #[.int .i64 0, .int .i64 1]) (by simp [results, Try.results21, go_sem]) rfl ⟨rfl, hb⟩

theorem var_none (ptr : Value) (w : Int) (n : Int) (W : World) (h : NoneAt W ptr) :
    Calls Try.prog 20 #[ptr, .int .i64 w, .int .i64 n] W fun e W' => e = .returned (.tuple #[.int .i64 0, .int .i64 1]) ∧ Below W.heap.size W W' := by
  have HM := Lib.hid (make_none ptr (vnd w n) W h)
  have e : (vnd w n).val = .agg #[.int .u8 2, .int .u8 ((nar w : Nat) : Int), .int .i64 0, .int .i64 0, .int .i64 0, .int .u64 (IntKind.u64.wrap n), .int .u8 0] := by
    unfold vnd Nd.val
    simp [u64_is]
  rw [e] at HM
  clear h e
  go_enter Try.func20, Try.ntmps20
  go_wp2_with (first | (go_at_call 41; refine (narrow_any w _).mono ?_; rintro e w1 ⟨rfl, rfl⟩) | (go_at_call 13; refine HM.out.mono ?_; rintro e w1 ⟨rfl, hb⟩))
  exact bodyPost_ret (v := .tuple #[.int .i64 0, .int .i64 1]) (by simp [results, Try.results20, go_sem]) rfl ⟨rfl, hb⟩

end Tm
end Go.Proofs.Ytigjbngedbbdbaa

namespace Go.Proofs.Ytigjbngedbbdbaa
open Go.RowKit Go.Maps Bv
namespace Tm
set_option maxHeartbeats 1000000
set_option maxRecDepth 100000

theorem row_at {w : World} {base : Nat} {v : Value} {T : List Nat} (h : w.ownsRow base 3 1 v T.length (todoRow T)) (hT : 0 < T.length) :
    ∃ g c, v = .slice (some ⟨g, 0, none⟩) T.length c ∧ ∀ j i, T[j]? = some i → w.cell? ⟨g, j, none⟩ = some (.int .i64 ((i : Nat) : Int)) := by
  have hr := h
  rcases h with ⟨hl, ⟨_, h2⟩ | ⟨g, cap, cur, hv, hb, hh, hn, _⟩⟩
  · omega
  · refine ⟨g, cap, hv, fun j i hj => ?_⟩
    have hc := hr.cells (g := g) (by rw [hv]; rfl) j (.int .i64 ((i : Nat) : Int)) (by simp [todoRow, hj])
    have e : (⟨g, 0, none⟩ : Addr).add j = ⟨g, j, none⟩ := by
      unfold Addr.add
      split <;> simp_all
    rw [e] at hc
    exact hc

theorem row_zero {w : World} {base : Nat} {v : Value} {xs : List Value} (h : w.ownsRow base 3 1 v 0 xs) : ∃ a c, v = .slice a 0 c := by
  rcases h with ⟨hl, ⟨h1, _⟩ | ⟨g, cap, cur, hv, _⟩⟩
  · exact ⟨none, 0, h1⟩
  · exact ⟨_, _, hv⟩

theorem made_to {B p m : Nat} {sv : Value} {L L' : List Nd} {x : Nd} {W : World} {f : FuncId} {args : Array Value} {a b : Int} (S : StoreAt B W p m sv L) (hB : B ≤ W.heap.size) (h : Calls Try.prog f args W (Made B p m sv L x W)) (h1 : (mk L x).1 = L') (h2 : (((mk L x).2.1 : Nat) : Int) = a) (h3 : (((mk L x).2.2 : Nat) : Int) = b) :
    Calls Try.prog f args W (fun e W' => e = .returned (.tuple #[.int .i64 a, .int .i64 b]) ∧ ∃ v, StoreAt B W' p m v L' ∧ Below B W W') := by
  refine h.mono ?_
  rintro e w' ⟨he, v, S', K, _⟩
  subst h1; subst h2; subst h3
  refine ⟨he, v, S', K.below (fun i hi hc => ?_) hB⟩
  rcases hc with c | c | c
  · have := S.bp; omega
  · have := S.bm; omega
  · have := (S.row.lt i c).1; omega

theorem new_at (W : World) :
    Calls Try.prog 12 #[] W fun e W' => e = .returned (.pointer (some ⟨W.heap.size + 1, 0, none⟩)) ∧
      StoreAt W.heap.size W' (W.heap.size + 1) W.heap.size (.slice none 0 0) [] ∧ Below W.heap.size W W' := by
  refine (new_any W).mono ?_
  rintro e w' ⟨rfl, rfl⟩
  exact ⟨rfl, new_store W, new_kept W _ _⟩

end Tm
end Go.Proofs.Ytigjbngedbbdbaa

namespace Go.Proofs.Ytigjbngedbbdbaa
open Go.RowKit Go.Maps Bv Tm
namespace Kn
set_option maxHeartbeats 800000
set_option maxRecDepth 100000

def kw1 : Nd := ⟨2, 8, 0, 0, 0, 0, 0⟩
def kw2 : Nd := ⟨1, 8, 0, 0, 0, 15, 0⟩
def kw3 : Nd := ⟨5, 8, 0, 1, 0, 0, 0⟩
def kw4 : Nd := ⟨23, 16, 0, 0, 0, 0, 0⟩
def kwL : List Nd := [kw1, kw2, kw3, kw4]
theorem kw3_ok : kw3.Ok := ⟨by decide, by decide, by simp [kw3, I64], by simp [kw3, I64], by simp [kw3, I64], by decide, by decide⟩
theorem kw4_ok : kw4.Ok := ⟨by decide, by decide, by simp [kw4, I64], by simp [kw4, I64], by simp [kw4, I64], by decide, by decide⟩
theorem kw_may : MayL kwL := by
  have g1 := mayL_step mayL_nil kw1
  rw [show (mk [] kw1).1 = [kw1] by decide] at g1
  have g2 := mayL_step g1 kw2
  rw [show (mk [kw1] kw2).1 = [kw1, kw2] by decide] at g2
  have g3 := mayL_step g2 kw3
  rw [show (mk [kw1, kw2] kw3).1 = [kw1, kw2, kw3] by decide] at g3
  have g4 := mayL_step g3 kw4
  rw [show (mk [kw1, kw2, kw3] kw4).1 = kwL by decide] at g4
  exact g4
theorem kw_0 : kn kwL 0 = (0, 0) := by decide +kernel
theorem kw_2 : kn kwL 2 = (240, 0) := by decide +kernel
theorem kw_3 : kn kwL 3 = (65280, 0) := by decide +kernel
theorem kof {B p m k z o : Nat} {ki zi oi : Int} {sv : Value} {W : World} (S : StoreAt B W p m sv kwL) (hk : k < kwL.length) (h : kn kwL k = (z, o)) (ek : ki = ((k : Nat) : Int)) (ez : zi = ((z : Nat) : Int)) (eo : oi = ((o : Nat) : Int)) :
    Calls Try.prog 7 #[.pointer (some ⟨p, 0, none⟩), .int .i64 ki] W fun e W' => e = .returned (.tuple #[.agg #[.int .u64 zi, .int .u64 oi], .int .i64 0]) ∧ Below W.heap.size W W' := by
  subst ek; subst ez; subst eo
  have := of_yes S kw_may hk
  rw [h] at this
  exact this

theorem mk3 : mk [kw1, kw2] kw3 = ([kw1, kw2, kw3], 2, 0) := by decide +kernel
theorem mk4 : mk [kw1, kw2, kw3] kw4 = (kwL, 3, 0) := by decide +kernel
theorem make3 {B p m : Nat} {sv : Value} {W : World} (S : StoreAt B W p m sv [kw1, kw2]) (hB : B ≤ W.heap.size) :
    Calls Try.prog 13 #[.pointer (some ⟨p, 0, none⟩), .agg #[.int .u8 5, .int .u8 8, .int .i64 0, .int .i64 1, .int .i64 0, .int .u64 0, .int .u8 0]] W fun e W' => e = .returned (.tuple #[.int .i64 2, .int .i64 0]) ∧ ∃ v, StoreAt B W' p m v [kw1, kw2, kw3] ∧ Below B W W' :=
  made_to S hB (make_any (x := kw3) S hB kw3_ok) (L' := [kw1, kw2, kw3]) (a := 2) (b := 0) (by rw [mk3]) (by rw [mk3]; rfl) (by rw [mk3]; rfl)
theorem make4 {B p m : Nat} {sv : Value} {W : World} (S : StoreAt B W p m sv [kw1, kw2, kw3]) (hB : B ≤ W.heap.size) :
    Calls Try.prog 13 #[.pointer (some ⟨p, 0, none⟩), .agg #[.int .u8 23, .int .u8 16, .int .i64 0, .int .i64 0, .int .i64 0, .int .u64 0, .int .u8 0]] W fun e W' => e = .returned (.tuple #[.int .i64 3, .int .i64 0]) ∧ ∃ v, StoreAt B W' p m v kwL ∧ Below B W W' :=
  made_to S hB (make_any (x := kw4) S hB kw4_ok) (L' := kwL) (a := 3) (b := 0) (by rw [mk4]) (by rw [mk4]; rfl) (by rw [mk4]; rfl)

/-- Two cells, the whole of a variable of known bits. -/
def At2 (w : World) (p : Nat) (x y : Value) : Prop := p < w.heap.size ∧ w.cell? ⟨p, 0, none⟩ = some x ∧ w.cell? ⟨p, 1, none⟩ = some y
theorem At2.keep {w w' : World} {p : Nat} {x y : Value} (h : At2 w p x y) (k : Below w.heap.size w w') : At2 w' p x y :=
  ⟨Nat.lt_of_lt_of_le h.1 k.size, (k.cell (p := ⟨p, 0, none⟩) h.1).trans h.2.1, (k.cell (p := ⟨p, 1, none⟩) h.1).trans h.2.2⟩
theorem At2.new (w : World) (x y : Value) (t : TypeId) : At2 (w.alloc (.cells #[x, y] t)) w.heap.size x y := by
  have h1 := (MapKept.heap_alloc w (.cells #[x, y] t)).1
  refine ⟨by rw [size_alloc]; omega, ?_, ?_⟩ <;> (unfold World.cell?; rw [h1]; rfl)

theorem works_any (W : World) :
    Calls Try.prog 9 #[] W fun e W' => e = .returned (.bool true) ∧ Below W.heap.size W W' := by
  go_enter Try.func9, Try.ntmps9
  go_wp2_with (go_at_call 12; refine (new_at W).mono ?_; rintro e v0 ⟨rfl, S0, hb0⟩)
  have hB0 := hb0.size
  have HC0 := Lib.hid (made_to S0 hB0 (var_any S0 (B := W.heap.size) hB0 8 0) (L' := [kw1]) (a := 0) (b := 0) (by decide +kernel) (by decide +kernel) (by decide +kernel))
  clear S0
  go_wp2_with (go_at_call 20; refine HC0.out.mono ?_; rintro e v1 ⟨rfl, s1, S1, hb1⟩)
  replace hb1 := hb0.trans hb1
  have hB1 := hb1.size
  clear HC0
  have HC1 := Lib.hid (made_to S1 hB1 (const_any S1 hB1 8 15 (by decide)) (L' := [kw1, kw2]) (a := 1) (b := 0) (by decide +kernel) (by decide +kernel) (by decide +kernel))
  clear S1
  go_wp2_with (go_at_call 21; refine HC1.out.mono ?_; rintro e v2 ⟨rfl, s2, S2, hb2⟩)
  replace hb2 := hb1.trans hb2
  have hB2 := hb2.size
  clear HC1
  have HC2 := Lib.hid (make3 S2 hB2)
  clear S2
  go_wp2_with (go_at_call 13; with_reducible refine HC2.out.mono ?_; rintro e v3 ⟨rfl, s3, S3, hb3⟩)
  replace hb3 := hb2.trans hb3
  have hB3 := hb3.size
  clear HC2
  have HC3 := Lib.hid (make4 S3 hB3)
  clear S3
  go_wp2_with (go_at_call 13; with_reducible refine HC3.out.mono ?_; rintro e v4 ⟨rfl, s4, S4, hb4⟩)
  replace hb4 := hb3.trans hb4
  clear HC3 hb0 hb1 hb2 hb3 hB0 hB1 hB2 hB3
  have HS4 := Lib.hid S4
  have HB4 := Lib.hid hb4
  clear S4 hb4
  have HO0 := Lib.hid (kof (ki := 0) (zi := 0) (oi := 0) HS4.out (by decide) kw_0 rfl rfl rfl)
  go_wp2_with fail
  with_reducible refine HO0.out.mono ?_
  rintro e v5 ⟨rfl, hbv5⟩
  have HSv5 := Lib.hid ((HS4.out.call hbv5).call (bel_alloc (Below.refl v5.heap.size v5) (.cells #[.int .u64 0, .int .u64 0] 29)))
  have HBv5 := Lib.hid (bel_alloc (bel_call HB4.out hbv5) (.cells #[.int .u64 0, .int .u64 0] 29))
  have HAv5 := Lib.hid (At2.new v5 (.int .u64 0) (.int .u64 0) 29)
  clear hbv5 HO0
  have HO1 := Lib.hid (kof (ki := 2) (zi := 240) (oi := 0) HSv5.out (by decide) kw_2 rfl rfl rfl)
  go_wp2_with fail
  with_reducible refine HO1.out.mono ?_
  rintro e v6 ⟨rfl, hbv6⟩
  have HSv6 := Lib.hid ((HSv5.out.call hbv6).call (bel_alloc (Below.refl v6.heap.size v6) (.cells #[.int .u64 240, .int .u64 0] 29)))
  have HBv6 := Lib.hid (bel_alloc (bel_call HBv5.out hbv6) (.cells #[.int .u64 240, .int .u64 0] 29))
  have HAv6 := Lib.hid (At2.new v6 (.int .u64 240) (.int .u64 0) 29)
  have HPv6 := Lib.hid ((HAv5.out.keep hbv6).keep (bel_alloc (Below.refl v6.heap.size v6) (.cells #[.int .u64 240, .int .u64 0] 29)))
  clear hbv6 HO1
  have HO2 := Lib.hid (kof (ki := 3) (zi := 65280) (oi := 0) HSv6.out (by decide) kw_3 rfl rfl rfl)
  go_wp2_with fail
  with_reducible refine HO2.out.mono ?_
  rintro e v7 ⟨rfl, hbv7⟩
  have HSv7 := Lib.hid ((HSv6.out.call hbv7).call (bel_alloc (Below.refl v7.heap.size v7) (.cells #[.int .u64 65280, .int .u64 0] 29)))
  have HBv7 := Lib.hid (bel_alloc (bel_call HBv6.out hbv7) (.cells #[.int .u64 65280, .int .u64 0] 29))
  have HAv7 := Lib.hid (At2.new v7 (.int .u64 65280) (.int .u64 0) 29)
  have HQv7 := Lib.hid ((HAv6.out.keep hbv7).keep (bel_alloc (Below.refl v7.heap.size v7) (.cells #[.int .u64 65280, .int .u64 0] 29)))
  have HPv7 := Lib.hid ((HPv6.out.keep hbv7).keep (bel_alloc (Below.refl v7.heap.size v7) (.cells #[.int .u64 65280, .int .u64 0] 29)))
  clear hbv7 HO2
  obtain ⟨la, a0, a1⟩ := HPv7.out
  obtain ⟨lb, b0, b1⟩ := HQv7.out
  obtain ⟨lc, c0, c1⟩ := HAv7.out
  obtain ⟨wz, hwz⟩ : ∃ wz, wz = v7.alloc (.cells #[.int .u64 65280, .int .u64 0] 29) := ⟨_, rfl⟩
  go_wp2_with fail
  rw [← hwz] at HBv7 a0 a1 b0 b1 c0 c1 la lb lc
  rw [← hwz]
  clear hwz HSv5 HSv6 HSv7 HBv5 HBv6 HPv6 HPv7 HQv7 HAv5 HAv6 HAv7 HS4 HB4
  go_ret
  exact ⟨rfl, HBv7.out⟩
end Kn
end Go.Proofs.Ytigjbngedbbdbaa
