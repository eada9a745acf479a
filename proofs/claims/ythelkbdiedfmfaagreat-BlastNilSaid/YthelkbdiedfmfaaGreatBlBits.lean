/-
  Bits of a constant of one bit, as a fact on one call.
-/
import Derived.Test.YthelkbdiedfmfaaGreatBlNode
import Derived.Test.YthelkbdiedfmfaaGreatBlMiss
namespace Go.Proofs.YthelkbdiedfmfaaGreat
open Go.RowKit Go.Maps Bv Tm
namespace Bl
set_option maxHeartbeats 4000000
set_option maxRecDepth 100000

/-- One list more in the map. -/
theorem BlAt.upd {B : Nat} {w : World} {b s mb : Nat} {lv ev : Value} {ls es : List Int} {n : Nat} {T : Tab} (h : BlAt B w b s mb lv ev ls es n T) (hn : n ≤ 1000) {k : Int} (hk : I64 k) (x : Nat × Nat × Nat) :
    ∃ w', (Instr.mapUpdate 29 (.map (some mb)) (.int .i64 k) (slOf (some x))).run Tryz.prog w = .ok () w' ∧ BlAt B w' b s mb lv ev ls es (n + 1) (T.put k x) ∧ Kept (fun i => i = mb) w w' := by
  obtain ⟨D, hD, hs⟩ := h.tab
  obtain ⟨w', hrun, ho, hg⟩ := hD.update ilaw Tryz.underlying29 (by unfold maxLen; omega) (ikey hk) (slElem_of x)
  have K : Kept (fun i => i = mb) w w' := (Kept.refl _ w).grown hg (fun i e _ => by simpa using e.symm)
  have bm := h.bm
  refine ⟨w', hrun, ⟨h.gb, h.gm, Nat.lt_of_lt_of_le h.lb K.size, Nat.lt_of_lt_of_le h.lm K.size, bm, (K.cell (x := ⟨b, 0, none⟩) h.lb bm).trans h.c0, (K.cell (x := ⟨b, 1, none⟩) h.lb bm).trans h.c1, (K.cell (x := ⟨b, 260, none⟩) h.lb bm).trans h.c5, (K.cell (x := ⟨b, 261, none⟩) h.lb bm).trans h.c6, (K.cell (x := ⟨b, 262, none⟩) h.lb bm).trans h.c7, (K.cell (x := ⟨b, 263, none⟩) h.lb bm).trans h.c8,
    fun o => (K.frozen (x := ⟨b, o, none⟩) h.lb bm).trans (h.fr o), row_kept h.lrow K (fun g e c => h.xlm (by rw [e, c])), row_kept h.erow K (fun g e c => h.xem (by rw [e, c])), h.xlb, h.xlm, h.xeb, h.xem, h.xle, ⟨_, ho, hs.put hk x⟩⟩, K⟩

theorem oneAt_mono {B B' : Nat} {w : World} {v : Value} {k : Int} (h : OneAt B w v k) (hB : B' ≤ B) : OneAt B' w v k := by
  obtain ⟨g, c, e, h1, h2, h3⟩ := h
  exact ⟨g, c, e, Nat.le_trans hB h1, h2, h3⟩

/-- What Bits has done. -/
def BitsOne (B b s mb : Nat) (lv ev : Value) (ls es : List Int) (n : Nat) (T : Tab) (k : Nat) (q : Int) (W : World) (e : Ending) (W' : World) : Prop :=
  ∃ v x, e = .returned (.tuple #[v, .int .i64 0]) ∧ OneAt W.heap.size W' v q ∧ BlAt B W' b s mb lv ev ls es (n + 1) (T.put ((k : Nat) : Int) x) ∧ Kept (fun i => i = mb) W W'

theorem bits_one {B BS b s m mb n k c : Nat} {sv lv ev : Value} {L : List Nd} {ls es : List Int} {T : Tab} {W : World} {q : Int} (h : BlAt B W b s mb lv ev ls es n T) (S : StoreAt BS W s m sv L) (hx : L[k]? = some ⟨1, 1, 0, 0, 0, c, 0⟩) (hT : T ((k : Nat) : Int) = none) (hn : n ≤ 1000)
    (hc : ∀ w : World, Calls Tryz.prog 24 #[.int .i64 1, .int .u64 ((c : Nat) : Int)] w fun e w' => e = .returned (.slice (some ⟨w.heap.size, 0, none⟩) 1 1) ∧ w' = w.alloc (.cells #[.int .i64 q] 3)) :
    Calls Tryz.prog 5 #[.pointer (some ⟨b, 0, none⟩), .int .i64 ((k : Nat) : Int)] W (BitsOne B b s mb lv ev ls es n T k q W) := by
  have hk6 : I64 ((k : Nat) : Int) := by
    have := (List.getElem?_eq_some_iff.1 hx).1
    have := S.good.len
    unfold I64; omega
  have c0 := h.c0
  have c1 := h.c1
  have c8 := h.c8
  have lb := h.lb
  have HK6 := Lib.hid hk6
  have HNN := Lib.hid hn
  have HBL := Lib.hid (fun w' (hb : Below W.heap.size W w') => h.call hb)
  have HNODE : Hid (∀ w', Below W.heap.size W w' → Calls Tryz.prog 10 #[.pointer (some ⟨s, 0, none⟩), .int .i64 ((k : Nat) : Int)] w' fun e w'' => e = .returned (.tuple #[.agg #[.int .u8 1, .int .u8 1, .int .i64 0, .int .i64 0, .int .i64 0, .int .u64 ((c : Nat) : Int), .int .u8 0], .int .i64 0]) ∧ Below w'.heap.size w' w'') := Lib.hid (fun w' hb => node_yes (S.call hb) hx)
  have HMISS := Lib.hid (fun w' (hb : Below W.heap.size W w') => missing_one (h.call hb) (S.call hb) hx rfl hT)
  have HNC := Lib.hid (fun w' (hb : Below W.heap.size W w') => bnode_const (h.call hb) hc)
  clear h S hx hT hc hk6
  go_enter Tryz.func5, Tryz.ntmps5
  go_wp2_with (first | (go_at_call 12; refine (bnone_made b s _ c0).mono ?_; rintro e w1 ⟨rfl, rfl⟩) | (go_at_call 10; refine (HNODE.out _ (Below.refl _ _)).mono ?_; rintro e w1 ⟨rfl, hb1⟩; have HB1 := Lib.hid (bel_alloc hb1 (.cells #[.int .u8 1, .int .u8 1, .int .i64 0, .int .i64 0, .int .i64 0, .int .u64 ((c : Nat) : Int), .int .u8 0] 56)); clear hb1) | (go_at_call 13; refine (HMISS.out _ HB1.out).mono ?_; rintro e w2 ⟨gm, cm, rfl, lgm, cgm, hb2⟩; have HB2 := Lib.hid (bel_call HB1.out hb2); clear hb2))
  have d0 := (HB2.out.cell (p := ⟨b, 0, none⟩) lb).trans c0
  have lb2 : b < w2.heap.size := Nat.lt_of_lt_of_le lb HB2.out.size
  refine wp_loop_rounds 2 ?_
  rw [rounds_succ]
  go_wp2_with (go_at_call 10; refine (HNODE.out _ HB2.out).mono ?_; rintro e w3 ⟨rfl, hb3⟩; have HB3 := Lib.hid (bel_call HB2.out (bel_alloc hb3 (.cells #[.int .u8 1, .int .u8 1, .int .i64 0, .int .i64 0, .int .i64 0, .int .u64 ((c : Nat) : Int), .int .u8 0] 56))); have LW3 := Lib.hid hb3.size; clear hb3)
  obtain ⟨V, hV⟩ : ∃ V, V = w3.alloc (.cells #[.int .u8 1, .int .u8 1, .int .i64 0, .int .i64 0, .int .i64 0, .int .u64 ((c : Nat) : Int), .int .u8 0] 56) := ⟨_, rfl⟩
  rw [← hV]
  have A := At7.new w3 (.int .u8 1) (.int .u8 1) (.int .i64 0) (.int .i64 0) (.int .i64 0) (.int .u64 ((c : Nat) : Int)) (.int .u8 0) 56
  have hb := HB3.out
  rw [← hV] at A hb
  have HHV := Lib.hid (HBL.out V hb)
  have HA := Lib.hid A
  have HBV := Lib.hid hb
  have HSV : Hid (V.heap.size = w3.heap.size + 1) := Lib.hid (by rw [hV, size_alloc])
  have HKEEP : Hid (∀ w', Kept (fun i => i = mb) V w' → w'.cell? ⟨b, 1, none⟩ = some (.map (some mb)) ∧ At7 w' w3.heap.size (.int .u8 1) (.int .u8 1) (.int .i64 0) (.int .i64 0) (.int .i64 0) (.int .u64 ((c : Nat) : Int)) (.int .u8 0)) := Lib.hid (fun w' hk => ⟨(hk.cell (x := ⟨b, 1, none⟩) HHV.out.lb HHV.out.bm).trans HHV.out.c1, HA.out.kept hk (fun e => by
    have := (HBL.out _ (Below.refl _ _)).lm
    have := HB2.out.size
    have := LW3.out
    omega)⟩)
  clear hV A hb
  refine wp_region_held_drew (S := fun w' => Kept (fun i => i = mb) V w') (by kernel_rfl) ((Kept.refl _ _).drew) (fun hHeld => ?_)
  refine wpAnyH_take (i := 0) (v := .pointer (some ⟨b, 0, none⟩)) (by simp only [List.getElem?_toArray, List.getElem?_cons_zero]; rfl) (by kernel_rfl) (by kernel_rfl) (by kernel_rfl) (by exact fun _ _ _ h => h) (Or.inl ⟨by rfl, ?_⟩) hHeld ?_
  · intro w' hSw
    obtain ⟨s0, hA7⟩ := HKEEP.out _ hSw; unfold At7 at hA7; obtain ⟨_, m0, m1, m2, m3, m4, m5, m6⟩ := And.intro trivial hA7; go_simp; try rfl
  simp only [Act.put, List.setIfInBounds_toArray, List.set_cons_zero, List.set_cons_succ]
  refine wpAnyH_take (i := 1) (v := .pointer (some ⟨b, 0, none⟩)) (by simp only [List.getElem?_toArray, List.getElem?_cons_zero, List.getElem?_cons_succ]; rfl) (by kernel_rfl) (by kernel_rfl) (by kernel_rfl) (by exact fun _ _ _ h => h) (Or.inl ⟨by rfl, ?_⟩) hHeld ?_
  · intro w' hSw
    obtain ⟨s0, hA7⟩ := HKEEP.out _ hSw; unfold At7 at hA7; obtain ⟨_, m0, m1, m2, m3, m4, m5, m6⟩ := And.intro trivial hA7; go_simp; try rfl
  simp only [Act.put, List.setIfInBounds_toArray, List.set_cons_zero, List.set_cons_succ]
  refine wpAnyH_take (i := 2) (v := .pointer (some ⟨b, 1, none⟩)) (by simp only [List.getElem?_toArray, List.getElem?_cons_zero, List.getElem?_cons_succ]; rfl) (by kernel_rfl) (by kernel_rfl) (by kernel_rfl) (by exact fun _ _ _ h => h) (Or.inl ⟨by rfl, ?_⟩) hHeld ?_
  · intro w' hSw
    obtain ⟨s0, hA7⟩ := HKEEP.out _ hSw; unfold At7 at hA7; obtain ⟨_, m0, m1, m2, m3, m4, m5, m6⟩ := And.intro trivial hA7; go_simp; try rfl
  simp only [Act.put, List.setIfInBounds_toArray, List.set_cons_zero, List.set_cons_succ]
  refine wpAnyH_take (i := 3) (v := .map (some mb)) (by simp only [List.getElem?_toArray, List.getElem?_cons_zero, List.getElem?_cons_succ]; rfl) (by kernel_rfl) (by kernel_rfl) (by kernel_rfl) (by exact fun _ _ _ h => h) (Or.inl ⟨by rfl, ?_⟩) hHeld ?_
  · intro w' hSw
    obtain ⟨s0, hA7⟩ := HKEEP.out _ hSw; unfold At7 at hA7; obtain ⟨_, m0, m1, m2, m3, m4, m5, m6⟩ := And.intro trivial hA7; go_simp; try rfl
  simp only [Act.put, List.setIfInBounds_toArray, List.set_cons_zero, List.set_cons_succ]
  refine wpAnyH_take (i := 4) (v := .int .i64 ((k : Nat) : Int)) (by simp only [List.getElem?_toArray, List.getElem?_cons_zero, List.getElem?_cons_succ]; rfl) (by kernel_rfl) (by kernel_rfl) (by kernel_rfl) (by exact fun _ _ _ h => h) (Or.inl ⟨by rfl, ?_⟩) hHeld ?_
  · intro w' hSw
    obtain ⟨s0, hA7⟩ := HKEEP.out _ hSw; unfold At7 at hA7; obtain ⟨_, m0, m1, m2, m3, m4, m5, m6⟩ := And.intro trivial hA7; go_simp; try rfl
  simp only [Act.put, List.setIfInBounds_toArray, List.set_cons_zero, List.set_cons_succ]
  refine wpAnyH_take (i := 5) (v := .pointer (some ⟨b, 0, none⟩)) (by simp only [List.getElem?_toArray, List.getElem?_cons_zero, List.getElem?_cons_succ]; rfl) (by kernel_rfl) (by kernel_rfl) (by kernel_rfl) (by exact fun _ _ _ h => h) (Or.inl ⟨by rfl, ?_⟩) hHeld ?_
  · intro w' hSw
    obtain ⟨s0, hA7⟩ := HKEEP.out _ hSw; unfold At7 at hA7; obtain ⟨_, m0, m1, m2, m3, m4, m5, m6⟩ := And.intro trivial hA7; go_simp; try rfl
  simp only [Act.put, List.setIfInBounds_toArray, List.set_cons_zero, List.set_cons_succ]
  refine wpAnyH_take (i := 6) (v := .agg #[.int .u8 1, .int .u8 1, .int .i64 0, .int .i64 0, .int .i64 0, .int .u64 ((c : Nat) : Int), .int .u8 0]) (by simp only [List.getElem?_toArray, List.getElem?_cons_zero, List.getElem?_cons_succ]; rfl) (by kernel_rfl) (by kernel_rfl) (by kernel_rfl) (by exact fun _ _ _ h => h) (Or.inl ⟨by rfl, ?_⟩) hHeld ?_
  · intro w' hSw
    obtain ⟨s0, hA7⟩ := HKEEP.out _ hSw; unfold At7 at hA7; obtain ⟨_, m0, m1, m2, m3, m4, m5, m6⟩ := And.intro trivial hA7; go_simp; try rfl
  simp only [Act.put, List.setIfInBounds_toArray, List.set_cons_zero, List.set_cons_succ]
  refine wpAnyH_ready (rs := [7]) (by kernel_rfl) (by simp) ?_
  refine AllReadyH.cons (by simp only [List.getElem?_toArray, List.getElem?_cons_zero, List.getElem?_cons_succ]; rfl) (fun K hK => ?_) AllReadyH.nil
  go_simp
  refine (HNC.out _ (HBV.out.trans ((Below.refl _ _).drew))).mono ?_
  rintro e w5 ⟨g5, rfl, hg5, lg5, cg5, hb5⟩
  obtain ⟨w6, hrun, hB6, hK6⟩ := (HBL.out w5 (bel_call (HBV.out.trans ((Below.refl _ _).drew)) hb5)).upd HNN.out HK6.out (g5, 1, 1)
  have HKV5 : Hid (Kept (fun i => i = mb) V w5) := Lib.hid (((Kept.refl _ V).drew).call hb5)
  have HB6 := Lib.hid hB6
  have HK66 := Lib.hid (HKV5.out.trans hK6)
  have C5 := Lib.hid ((hK6.cell (x := ⟨g5, 0, none⟩) lg5 (fun e => by have e9 : g5 = mb := e; have := (HBL.out _ (Below.refl _ _)).lm; have := HBV.out.size; have h9 : V.heap.size ≤ g5 := hg5; omega)).trans cg5)
  have L5 := Lib.hid (Nat.lt_of_lt_of_le lg5 hK6.size)
  have HG5 := Lib.hid hg5
  refine hK.out _ _ HKV5.out (fun hHeld => ?_)
  clear hK K hb5 hB6 hK6 hHeld cg5 lg5 hg5
  have hHeld := HKV5.out
  try simp only [Act.put, List.setIfInBounds_toArray, List.set_cons_zero, List.set_cons_succ]
  refine wpAnyH_ready (rs := [8]) (by kernel_rfl) (by simp) ?_
  refine AllReadyH.cons (by simp only [List.getElem?_toArray, List.getElem?_cons_zero, List.getElem?_cons_succ]; rfl) (fun K hK => ?_) AllReadyH.nil
  unfold slOf at hrun
  go_simp
  refine hK.out _ _ HK66.out (fun hHeld => ?_)
  clear hK K hHeld hrun
  try simp only [Act.put, List.setIfInBounds_toArray, List.set_cons_zero, List.set_cons_succ]
  refine wpAnyH_done (by kernel_rfl) ?_ _
  have u8 := HB6.out.c8
  have u1 := HB6.out.c1
  obtain ⟨D, hD, hs⟩ := HB6.out.tab
  have hlk := look_sl hD hs HK6.out
  have eT : (T.put ((k : Nat) : Int) (g5, 1, 1)) ((k : Nat) : Int) = some (g5, 1, 1) := by simp [Tab.put]
  rw [eT] at hlk
  unfold slOf at hlk
  clear hD hs eT c0 c1 c8 d0
  go_wp2_with fail
  rw [rounds_succ]
  go_wp2_with (go_at_call 15; refine (clone_one g5 1 q w6 L5.out C5.out).mono ?_; rintro e w7 ⟨⟨v7, rfl, h7⟩, hb7⟩; have HO7 := Lib.hid h7; have HB7 := Lib.hid hb7; clear h7 hb7)
  go_ret2
  have hk7 : Kept (fun i => i = mb) W w6 := (Kept.ofBelow HBV.out (fun i => i = mb)).trans HK66.out
  exact ⟨v7, (g5, 1, 1), rfl, oneAt_mono HO7.out hk7.size, HB6.out.call HB7.out, hk7.call HB7.out⟩
end Bl
end Go.Proofs.YthelkbdiedfmfaaGreat
