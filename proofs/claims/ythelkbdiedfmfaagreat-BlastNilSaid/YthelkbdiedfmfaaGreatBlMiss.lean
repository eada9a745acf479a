/-
  The closure of layer blast that reaches a number, and the list of one constant that lacks its literals, as facts on one call.
-/
import Derived.Test.YthelkbdiedfmfaaGreatBlMem
import Derived.Test.YthelkbdiedfmfaaGreatTmInfo
import Derived.Test.YthelkbdiedfmfaaGreatEvSet
import Derived.Test.YthelkbdiedfmfaaGreatTmSortB
namespace Go.Proofs.YthelkbdiedfmfaaGreat
open Go.RowKit Go.Maps Bv Tm
namespace Bl
set_option maxHeartbeats 4000000
set_option maxRecDepth 100000

/-- What the first call of the closure has done. -/
def ReOne (base b4 b5 bm : Nat) (k : Int) (W W' : World) : Prop :=
  ∃ tv', ReAt base W' b4 b5 bm [k] tv' ∧ Kept (fun i => i = b5 ∨ i = bm) W W'

theorem reach_one {base : Nat} {b b2 b4 b5 bm mb : Nat} {k : Int} {W : World} (h : ReAt base W b4 b5 bm [] (.slice none 0 0)) (hB : base ≤ W.heap.size) (hk : I64 k)
    (cb : W.cell? ⟨b2, 0, none⟩ = some (.pointer (some ⟨b, 0, none⟩))) (c1 : W.cell? ⟨b, 1, none⟩ = some (.map (some mb)))
    (hlb : (Instr.lookup 29 (.map (some mb)) (.int .i64 k) true).run Tryz.prog W = .ok (.tuple #[.slice none 0 0, .bool false]) W) :
    Calls Tryz.prog 21 #[.int .i64 k, .pointer (some ⟨b2, 0, none⟩), .pointer (some ⟨b4, 0, none⟩), .pointer (some ⟨b5, 0, none⟩)] W fun e W' => e = .returned (.tuple #[]) ∧ ReOne base b4 b5 bm k W W' := by
  have c40 := h.c4
  obtain ⟨D0, hD0, hs0⟩ := h.tab
  have hlk0 := look_set hD0 hs0 hk
  have lm0 := h.l4
  have h := h.call (bel_alloc (Below.refl W.heap.size W) (.cells #[] 69))
  obtain ⟨V, hV⟩ : ∃ V, V = W.alloc (.cells #[] 69) := ⟨_, rfl⟩
  have sV : V.heap.size = W.heap.size + 1 := by rw [hV, size_alloc]
  have KV : Kept (refoot b5 bm (.slice none 0 0)) W V := by rw [hV]; exact (Kept.refl _ _).alloc _
  rw [← hV] at h
  have c4 := h.c4
  have c5 := h.c5
  have f5 := h.f5 0
  have l5 := h.l5
  have l4 := h.l4
  obtain ⟨D, hD, hs⟩ := h.tab
  have hlk := look_set hD hs hk
  rw [decide_eq_false (by simp)] at hlk hlk0
  clear hD0 hs0
  obtain ⟨i0, hinfo, hz0, hz1, hz2⟩ := info_parts Tm.info_int
  obtain ⟨w1, hrun, ho1, ht1⟩ := hD.store law_int Tryz.underlying67 (by simp [maxLen]) (key_int hk) (unitElem_mk (H := Unit))
  have hg1 := ht1.grown
  have K1 := kept_grown hg1 (F := fun i => i = bm) (fun i e => by simpa using e.symm)
  have c5' : w1.cell? ⟨b5, 0, none⟩ = some (.slice none 0 0) := (K1.cell (x := ⟨b5, 0, none⟩) l5 h.n5m).trans c5
  have HR : Hid ((w1.alloc (.cells #[.int .i64 k] 3)).ownsRow base 3 1 (.slice none 0 0) 0 []) := Lib.hid (World.ownsRow_nil _ _ _ _)
  have HN := Lib.hid (cell_one_new w1 (.int .i64 k) 3)
  have H1 := Lib.hid (show ∀ u ∈ [Value.int .i64 k], u.oneCell' = true by intro u hu; simp at hu; subst hu; rfl)
  have HD := Lib.hid h
  have z1 := hg1.size
  have HB1 : Hid (base ≤ (w1.alloc (.cells #[.int .i64 k] 3)).heap.size) := by show _ ≤ _; rw [size_alloc]; omega
  have HG1 := Lib.hid hg1
  have HO1 := Lib.hid (And.intro ho1 (hs.add hk))
  have l51 : b5 < w1.heap.size := by omega
  have fz1 : w1.frozen? ⟨b5, 0, none⟩ = false := (K1.frozen (x := ⟨b5, 0, none⟩) l5 h.n5m).trans f5
  have HKV := Lib.hid KV
  have HSV := Lib.hid sV
  clear h hD hs ho1 ht1 hg1 K1 KV sV
  subst hV
  go_enter Tryz.func21, Tryz.ntmps21
  go_wp2_with (at_builtin; refine wpList_append_own_at _ rfl (.tmp 33) (.tmp 35) 31 rfl base 3 i0 (.int .i64 0) 1 8 Tryz.underlying31 hinfo hz0 hz1 hz2 rfl (by decide) (.slice none 0 0) 0 [] rfl HR.out ⟨w1.heap.size, 0, none⟩ 1 1 [.int .i64 k] rfl rfl HN.out H1.out (by unfold maxLen; omega) (by omega) HB1.out ?_; intro v' w2 hrow hgr _ hloc; obtain ⟨g', c', rfl, hBg, hg'⟩ := row_slice hrow; have D2 := HD.out.added HG1.out HO1.out.1 HO1.out.2 hgr hrow hloc; have C5 : w2.cell? ⟨b5, 0, none⟩ = some (.slice none 0 0) := ?cc; have F5 : w2.frozen? ⟨b5, 0, none⟩ = false := ?ff)
  case cc => exact hgr.cell (by rw [World.cell?_alloc_lt _ _ _ (by omega)]; exact c5') (fun e => HD.out.t5 e.symm)
  case ff => exact (World.frozen?_of_block (hgr.block b5 (by rw [size_alloc]; omega) (fun e => HD.out.t5 e.symm))).trans (by rw [World.frozen?_alloc_old _ _ _ (show b5 ≠ _ by omega)]; exact fz1)
  all_goals go_end0
  all_goals exact ⟨rfl, _, D2.1, (HKV.out.trans D2.2.1).mono (fun i _ c => c.elim .inl (fun c => c.elim .inr (fun c => by simp [Value.ownBlock] at c)))⟩
/-- The list and the set, when they begin. -/
theorem re_begin (W : World) : ReAt W.heap.size (((W.alloc (.map #[] 0)).alloc (.cells #[.map (some W.heap.size)] 67)).alloc (.cells #[.slice none 0 0] 31)) (W.heap.size + 1) (W.heap.size + 1 + 1) W.heap.size [] (.slice none 0 0) ∧ Below W.heap.size W (((W.alloc (.map #[] 0)).alloc (.cells #[.map (some W.heap.size)] 67)).alloc (.cells #[.slice none 0 0] 31)) := by
  have hm : (((W.alloc (.map #[] 0)).alloc (.cells #[.map (some W.heap.size)] 67)).alloc (.cells #[.slice none 0 0] 31)).ownsMap Tryz.prog 3 (unitElem (H := Unit)) W.heap.size 0 (.map []) := ((World.ownsMap_made W _ _ _).alloc _).alloc _
  have b0 : Below W.heap.size W (((W.alloc (.map #[] 0)).alloc (.cells #[.map (some W.heap.size)] 67)).alloc (.cells #[.slice none 0 0] 31)) := bel_alloc (bel_alloc (bel_alloc (Below.refl _ _) _) _) _
  have s1 : (W.alloc (.map #[] 0)).heap.size = W.heap.size + 1 := size_alloc _ _
  have s2 : ((W.alloc (.map #[] 0)).alloc (.cells #[.map (some W.heap.size)] 67)).heap.size = W.heap.size + 1 + 1 := by rw [size_alloc, s1]
  have s3 : (((W.alloc (.map #[] 0)).alloc (.cells #[.map (some W.heap.size)] 67)).alloc (.cells #[.slice none 0 0] 31)).heap.size = W.heap.size + 1 + 1 + 1 := by rw [size_alloc, s2]
  have h4 : (((W.alloc (.map #[] 0)).alloc (.cells #[.map (some W.heap.size)] 67)).alloc (.cells #[.slice none 0 0] 31)).heap[W.heap.size + 1]? = some (.cells #[.map (some W.heap.size)] 67 (0, 0)) := by
    rw [Below.heap_alloc _ _ _ (by omega)]
    have := (MapKept.heap_alloc (W.alloc (.map #[] 0)) (.cells #[.map (some W.heap.size)] 67)).1
    rw [s1] at this
    exact this
  have h5 : (((W.alloc (.map #[] 0)).alloc (.cells #[.map (some W.heap.size)] 67)).alloc (.cells #[.slice none 0 0] 31)).heap[W.heap.size + 1 + 1]? = some (.cells #[.slice none 0 0] 31 (0, 0)) := by
    have := (MapKept.heap_alloc ((W.alloc (.map #[] 0)).alloc (.cells #[.map (some W.heap.size)] 67)) (.cells #[.slice none 0 0] 31)).1
    rw [s2] at this
    exact this
  generalize (((W.alloc (.map #[] 0)).alloc (.cells #[.map (some W.heap.size)] 67)).alloc (.cells #[.slice none 0 0] 31)) = w3 at hm b0 s3 h4 h5 ⊢
  refine ⟨⟨by omega, by omega, Nat.le_refl _, by omega, by omega, by omega, by omega, by omega, by omega, ?_, ?_, fun i => ?_, ⟨_, hm, setOf_nil⟩, World.ownsRow_nil _ _ _ _, by simp [Value.ownBlock], by simp [Value.ownBlock], by simp [Value.ownBlock]⟩, b0⟩
  · unfold World.cell?; rw [h4]; rfl
  · unfold World.cell?; rw [h5]; rfl
  · unfold World.frozen?; rw [h5]; simp


theorem cell_in {w w7 : World} (_ : Below w.heap.size w w7) {z : Nat} {v : Value} (h : w7.cell? ⟨z, 0, none⟩ = some v) : w7.cell? ⟨z, 0, none⟩ = some v := h
theorem fz_new (w w5 : World) (cs : Array Value) (t : TypeId) (hb : Below (w.alloc (.cells cs t)).heap.size (w.alloc (.cells cs t)) w5) : ∀ j, w5.frozen? ⟨w.heap.size, j, none⟩ = false := by
  intro j
  refine (hb.frozen (p := ⟨w.heap.size, j, none⟩) (by simp)).trans ?_
  have := (MapKept.heap_alloc w (.cells cs t)).1
  unfold World.frozen?
  rw [this]
  simp

theorem one_row {B : Nat} {w : World} {v x : Value} {t : TypeId} (h : w.ownsRow B t 1 v 1 [x]) : ∃ g c, v = .slice (some ⟨g, 0, none⟩) 1 c ∧ g < w.heap.size ∧ w.cell? ⟨g, 0, none⟩ = some x := by
  have hr := h
  rcases h with ⟨_, ⟨_, h2⟩ | ⟨g, cap, cur, hv, hb, hh, _⟩⟩
  · omega
  · refine ⟨g, cap, hv, (Array.getElem?_eq_some_iff.1 hh).1, ?_⟩
    have := hr.cells (g := g) (by rw [hv]; rfl) 0 x rfl
    simpa [Addr.add] using this

/-- What missing answers of one constant. -/
def MissOne (k : Nat) (W : World) (e : Ending) (W' : World) : Prop :=
  ∃ g c, e = .returned (.slice (some ⟨g, 0, none⟩) 1 c) ∧ g < W'.heap.size ∧ W'.cell? ⟨g, 0, none⟩ = some (.int .i64 ((k : Nat) : Int)) ∧ Below W.heap.size W W'

theorem missing_one {B BS : Nat} {b s m mb n k : Nat} {sv lv ev : Value} {L : List Nd} {ls es : List Int} {T : Tab} {x : Nd} {W : World} (h : BlAt B W b s mb lv ev ls es n T) (S : StoreAt BS W s m sv L) (hx : L[k]? = some x) (ho : x.o = 1) (hT : T ((k : Nat) : Int) = none) :
    Calls Tryz.prog 13 #[.pointer (some ⟨b, 0, none⟩), .int .i64 ((k : Nat) : Int)] W (MissOne k W) := by
  have hmm := @run_makeMap Tryz.prog
  have hmf : ∀ (fn : Fn) (first cap : Array Value) (w : World), (Instr.makeFunc fn first cap).run Tryz.prog w = .ok (.func fn first cap) w := fun _ _ _ _ => rfl
  have hk6 : I64 ((k : Nat) : Int) := by
    have := (List.getElem?_eq_some_iff.1 hx).1
    have := S.good.len
    unfold I64; omega
  obtain ⟨V, hV⟩ : ∃ V, V = W.alloc (.cells #[.pointer (some ⟨b, 0, none⟩)] 23) := ⟨_, rfl⟩
  have sV : V.heap.size = W.heap.size + 1 := by rw [hV, size_alloc]
  have bV : Below W.heap.size W V := by rw [hV]; exact bel_alloc (Below.refl _ _) _
  obtain ⟨hR, bU⟩ := re_begin V
  have cbV : V.cell? ⟨W.heap.size, 0, none⟩ = some (.pointer (some ⟨b, 0, none⟩)) := by rw [hV]; exact cell_one_new W _ _ 0 _ rfl
  obtain ⟨U, hU⟩ : ∃ U, U = (((V.alloc (.map #[] 0)).alloc (.cells #[.map (some V.heap.size)] 67)).alloc (.cells #[.slice none 0 0] 31)) := ⟨_, rfl⟩
  rw [← hU] at hR bU
  have bWU : Below W.heap.size W U := bel_call bV bU
  have cbU : U.cell? ⟨W.heap.size, 0, none⟩ = some (.pointer (some ⟨b, 0, none⟩)) := (bU.cell (p := ⟨W.heap.size, 0, none⟩) (show W.heap.size < V.heap.size by omega)).trans cbV
  have hBU := h.call bWU
  have SU := S.call bWU
  obtain ⟨D, hD, hs⟩ := hBU.tab
  have hlk := look_sl_ok hD hs hk6
  rw [hT] at hlk
  have HRE := Lib.hid (reach_one hR (show V.heap.size ≤ U.heap.size from bU.size) hk6 cbU hBU.c1 hlk)
  have HRC : Hid (∀ w1, ReOne V.heap.size (V.heap.size + 1) (V.heap.size + 1 + 1) V.heap.size ((k : Nat) : Int) U w1 → Below W.heap.size W w1 ∧ w1.cell? ⟨W.heap.size, 0, none⟩ = some (.pointer (some ⟨b, 0, none⟩)) ∧ w1.cell? ⟨b, 0, none⟩ = some (.pointer (some ⟨s, 0, none⟩)) ∧ StoreAt BS w1 s m sv L ∧ W.heap.size < w1.heap.size) := by
    rintro w1 ⟨tv', hR', hK⟩
    have hb : Below (V.heap.size) U w1 := hK.below (fun i hi c => by rcases c with c | c <;> omega) bU.size
    have hb1 : Below W.heap.size W w1 := bWU.trans (hb.mono (by omega))
    refine ⟨hb1, (hb.cell (p := ⟨W.heap.size, 0, none⟩) (show W.heap.size < V.heap.size by omega)).trans cbU, (hb1.cell (p := ⟨b, 0, none⟩) h.lb).trans h.c0, S.call hb1, ?_⟩
    have := hb.size; have := bU.size; omega
  have lb := h.lb
  have LB : W.heap.size < U.heap.size := by have := bU.size; omega
  rw [hU] at HRE HRC
  rw [hV] at HRE HRC
  have e1 : (W.alloc (.cells #[.pointer (some ⟨b, 0, none⟩)] 23)).heap.size = W.heap.size + 1 := size_alloc _ _
  rw [e1] at HRE HRC
  have HU := Lib.hid hU
  have HV := Lib.hid hV
  have HSV := Lib.hid sV
  clear h S hR bV bU cbV cbU hBU SU hD hs hlk hT bWU hU hV sV e1
  go_enter Tryz.func13, Tryz.ntmps13
  go_wp2_with (go_at_call 21; refine HRE.out.mono ?_; rintro e w1 ⟨rfl, hr1⟩; have HR1 := Lib.hid hr1; clear hr1)
  have hr1 := HR1.out
  obtain ⟨hb1, cb1, c01, S1, lw⟩ := HRC.out w1 hr1
  obtain ⟨tv', hR', hK⟩ := hr1
  obtain ⟨g, c, rfl, lg, cg⟩ := hR'.at' (i := 0) (q := ((k : Nat) : Int)) rfl
  have cn : w1.cell? ⟨W.heap.size + 1 + 1 + 1, 0, none⟩ = some (.slice (some ⟨g, 0, none⟩) 1 c) := hR'.c5
  have ln : W.heap.size + 1 + 1 + 1 < w1.heap.size := hR'.l5
  have lb1 : b < w1.heap.size := by omega
  have HROW : Hid (w1.ownsRow (W.heap.size + 1) 3 1 (.slice (some ⟨g, 0, none⟩) 1 c) 1 (todoRow [k])) := Lib.hid hR'.row
  have HT5 : Hid (Value.ownBlock (.slice (some ⟨g, 0, none⟩) 1 c) ≠ some (W.heap.size + 1 + 1 + 1)) := Lib.hid hR'.t5
  have HN : Hid (∀ w5, Below w1.heap.size w1 w5 → Calls Tryz.prog 10 #[.pointer (some ⟨s, 0, none⟩), .int .i64 ((k : Nat) : Int)] w5 fun e W' => e = .returned (.tuple #[x.val, .int .i64 0]) ∧ Below w5.heap.size w5 W') := Lib.hid (fun w5 hb => node_yes (S1.call hb) hx)
  obtain ⟨o, wd, k0, k1, k2, nn, l⟩ := x
  obtain rfl : o = 1 := ho
  unfold Nd.val at HN
  have HKEEP : Hid (∀ w5, Below w1.heap.size w1 w5 → w5.cell? ⟨W.heap.size, 0, none⟩ = some (.pointer (some ⟨b, 0, none⟩)) ∧ w5.cell? ⟨b, 0, none⟩ = some (.pointer (some ⟨s, 0, none⟩)) ∧ w5.cell? ⟨W.heap.size + 1 + 1 + 1, 0, none⟩ = some (.slice (some ⟨g, 0, none⟩) 1 c) ∧ w5.cell? ⟨g, 0, none⟩ = some (.int .i64 ((k : Nat) : Int))) := Lib.hid (fun w5 hb => ⟨(hb.cell (p := ⟨W.heap.size, 0, none⟩) lw).trans cb1, (hb.cell (p := ⟨b, 0, none⟩) lb1).trans c01, (hb.cell (p := ⟨W.heap.size + 1 + 1 + 1, 0, none⟩) ln).trans cn, (hb.cell (p := ⟨g, 0, none⟩) lg).trans cg⟩)
  have HB1 := Lib.hid hb1
  have HX := Lib.hid hx
  clear hb1 S1 hR' hK HR1 HRC HRE hx
  refine wp_loop_rounds 2 ?_
  rw [rounds_succ]
  go_wp2_with fail
  refine wp_region_held_drew (S := fun w' => Below w1.heap.size w1 w') (by kernel_rfl) ((Below.refl _ _).drew) (fun hHeld => ?_)
  refine wpAnyH_take (i := 0) (v := .pointer (some ⟨b, 0, none⟩)) (by simp only [List.getElem?_toArray, List.getElem?_cons_zero]; rfl) (by kernel_rfl) (by kernel_rfl) (by kernel_rfl) (by exact fun _ _ _ h => h) (Or.inl ⟨by rfl, ?_⟩) hHeld ?_
  · intro w' hSw
    obtain ⟨s0, s1, s2, s3⟩ := HKEEP.out _ hSw; go_simp; try rfl
  simp only [Act.put, List.setIfInBounds_toArray, List.set_cons_zero, List.set_cons_succ]
  refine wpAnyH_take (i := 1) (v := .pointer (some ⟨b, 0, none⟩)) (by simp only [List.getElem?_toArray, List.getElem?_cons_zero, List.getElem?_cons_succ]; rfl) (by kernel_rfl) (by kernel_rfl) (by kernel_rfl) (by exact fun _ _ _ h => h) (Or.inl ⟨by rfl, ?_⟩) hHeld ?_
  · intro w' hSw
    obtain ⟨s0, s1, s2, s3⟩ := HKEEP.out _ hSw; go_simp; try rfl
  simp only [Act.put, List.setIfInBounds_toArray, List.set_cons_zero, List.set_cons_succ]
  refine wpAnyH_take (i := 2) (v := .pointer (some ⟨b, 0, none⟩)) (by simp only [List.getElem?_toArray, List.getElem?_cons_zero, List.getElem?_cons_succ]; rfl) (by kernel_rfl) (by kernel_rfl) (by kernel_rfl) (by exact fun _ _ _ h => h) (Or.inl ⟨by rfl, ?_⟩) hHeld ?_
  · intro w' hSw
    obtain ⟨s0, s1, s2, s3⟩ := HKEEP.out _ hSw; go_simp; try rfl
  simp only [Act.put, List.setIfInBounds_toArray, List.set_cons_zero, List.set_cons_succ]
  refine wpAnyH_take (i := 3) (v := .pointer (some ⟨s, 0, none⟩)) (by simp only [List.getElem?_toArray, List.getElem?_cons_zero, List.getElem?_cons_succ]; rfl) (by kernel_rfl) (by kernel_rfl) (by kernel_rfl) (by exact fun _ _ _ h => h) (Or.inl ⟨by rfl, ?_⟩) hHeld ?_
  · intro w' hSw
    obtain ⟨s0, s1, s2, s3⟩ := HKEEP.out _ hSw; go_simp; try rfl
  simp only [Act.put, List.setIfInBounds_toArray, List.set_cons_zero, List.set_cons_succ]
  refine wpAnyH_take (i := 4) (v := .slice (some ⟨g, 0, none⟩) 1 c) (by simp only [List.getElem?_toArray, List.getElem?_cons_zero, List.getElem?_cons_succ]; rfl) (by kernel_rfl) (by kernel_rfl) (by kernel_rfl) (by exact fun _ _ _ h => h) (Or.inl ⟨by rfl, ?_⟩) hHeld ?_
  · intro w' hSw
    obtain ⟨s0, s1, s2, s3⟩ := HKEEP.out _ hSw; go_simp; try rfl
  simp only [Act.put, List.setIfInBounds_toArray, List.set_cons_zero, List.set_cons_succ]
  refine wpAnyH_take (i := 5) (v := .int .i64 0) (by simp only [List.getElem?_toArray, List.getElem?_cons_zero, List.getElem?_cons_succ]; rfl) (by kernel_rfl) (by kernel_rfl) (by kernel_rfl) (by exact fun _ _ _ h => h) (Or.inl ⟨by rfl, ?_⟩) hHeld ?_
  · intro w' hSw
    obtain ⟨s0, s1, s2, s3⟩ := HKEEP.out _ hSw; go_simp; try rfl
  simp only [Act.put, List.setIfInBounds_toArray, List.set_cons_zero, List.set_cons_succ]
  refine wpAnyH_take (i := 6) (v := .pointer (some ⟨g, 0, none⟩)) (by simp only [List.getElem?_toArray, List.getElem?_cons_zero, List.getElem?_cons_succ]; rfl) (by kernel_rfl) (by kernel_rfl) (by kernel_rfl) (by exact fun _ _ _ h => h) (Or.inl ⟨by rfl, ?_⟩) hHeld ?_
  · intro w' hSw
    obtain ⟨s0, s1, s2, s3⟩ := HKEEP.out _ hSw; go_simp; try rfl
  simp only [Act.put, List.setIfInBounds_toArray, List.set_cons_zero, List.set_cons_succ]
  refine wpAnyH_take (i := 7) (v := .int .i64 ((k : Nat) : Int)) (by simp only [List.getElem?_toArray, List.getElem?_cons_zero, List.getElem?_cons_succ]; rfl) (by kernel_rfl) (by kernel_rfl) (by kernel_rfl) (by exact fun _ _ _ h => h) (Or.inl ⟨by rfl, ?_⟩) hHeld ?_
  · intro w' hSw
    obtain ⟨s0, s1, s2, s3⟩ := HKEEP.out _ hSw; go_simp; try rfl
  simp only [Act.put, List.setIfInBounds_toArray, List.set_cons_zero, List.set_cons_succ]
  refine wpAnyH_ready (rs := [8, 12]) (by kernel_rfl) (by simp) ?_
  refine AllReadyH.cons (by simp only [List.getElem?_toArray, List.getElem?_cons_zero, List.getElem?_cons_succ]; rfl) (fun K hK => ?_) ?_
  · go_simp
    refine (HN.out _ hHeld).mono ?_
    rintro e w5 ⟨rfl, hb5⟩
    refine hK.out _ _ (bel_call hHeld hb5) (fun hHeld => ?_)
    have HB5 := Lib.hid hHeld
    clear hK K hb5
    try simp only [Act.put, List.setIfInBounds_toArray, List.set_cons_zero, List.set_cons_succ]
    refine wpAnyH_take (i := 9) (v := .tuple #[.agg #[.int .u8 1, .int .u8 ((wd : Nat) : Int), .int .i64 k0, .int .i64 k1, .int .i64 k2, .int .u64 ((nn : Nat) : Int), .int .u8 ((l : Nat) : Int)], .int .i64 0]) (by simp only [List.getElem?_toArray, List.getElem?_cons_zero, List.getElem?_cons_succ]; rfl) (by kernel_rfl) (by kernel_rfl) (by kernel_rfl) (by exact fun _ _ _ h => h) (Or.inl ⟨by rfl, ?_⟩) hHeld ?_
    · intro w' hSw
      obtain ⟨s0, s1, s2, s3⟩ := HKEEP.out _ hSw; go_simp; try rfl
    simp only [Act.put, List.setIfInBounds_toArray, List.set_cons_zero, List.set_cons_succ]
    refine wpAnyH_take (i := 10) (v := .agg #[.int .u8 1, .int .u8 ((wd : Nat) : Int), .int .i64 k0, .int .i64 k1, .int .i64 k2, .int .u64 ((nn : Nat) : Int), .int .u8 ((l : Nat) : Int)]) (by simp only [List.getElem?_toArray, List.getElem?_cons_zero, List.getElem?_cons_succ]; rfl) (by kernel_rfl) (by kernel_rfl) (by kernel_rfl) (by exact fun _ _ _ h => h) (Or.inl ⟨by rfl, ?_⟩) hHeld ?_
    · intro w' hSw
      obtain ⟨s0, s1, s2, s3⟩ := HKEEP.out _ hSw; go_simp; try rfl
    simp only [Act.put, List.setIfInBounds_toArray, List.set_cons_zero, List.set_cons_succ]
    refine wpAnyH_take (i := 11) (v := .int .i64 0) (by simp only [List.getElem?_toArray, List.getElem?_cons_zero, List.getElem?_cons_succ]; rfl) (by kernel_rfl) (by kernel_rfl) (by kernel_rfl) (by exact fun _ _ _ h => h) (Or.inl ⟨by rfl, ?_⟩) hHeld ?_
    · intro w' hSw
      obtain ⟨s0, s1, s2, s3⟩ := HKEEP.out _ hSw; go_simp; try rfl
    simp only [Act.put, List.setIfInBounds_toArray, List.set_cons_zero, List.set_cons_succ]
    refine wpAnyH_ready (rs := [12]) (by kernel_rfl) (by simp) ?_
    refine AllReadyH.cons (by simp only [List.getElem?_toArray, List.getElem?_cons_zero, List.getElem?_cons_succ]; rfl) (fun K hK => ?_) AllReadyH.nil
    go_simp
    refine hK.out _ _ (bel_alloc hHeld _) (fun hHeld => ?_)
    clear hK K
    try simp only [Act.put, List.setIfInBounds_toArray, List.set_cons_zero, List.set_cons_succ]
    refine wpAnyH_ready (rs := [13]) (by kernel_rfl) (by simp) ?_
    refine AllReadyH.cons (by simp only [List.getElem?_toArray, List.getElem?_cons_zero, List.getElem?_cons_succ]; rfl) (fun K hK => ?_) AllReadyH.nil
    go_simp
    refine hK.out _ _ (bel_alloc HB5.out _) (fun hHeld => ?_)
    clear hK K
    try simp only [Act.put, List.setIfInBounds_toArray, List.set_cons_zero, List.set_cons_succ]
    refine wpAnyH_ready (rs := [14]) (by kernel_rfl) (by simp) ?_
    refine AllReadyH.cons (by simp only [List.getElem?_toArray, List.getElem?_cons_zero, List.getElem?_cons_succ]; rfl) (fun K hK => ?_) AllReadyH.nil
    go_simp
    refine hK.out _ _ hHeld (fun hHeld => ?_)
    clear hK K
    try simp only [Act.put, List.setIfInBounds_toArray, List.set_cons_zero, List.set_cons_succ]
    refine wpAnyH_done (by kernel_rfl) ?_ _
    have HH7 := Lib.hid hHeld
    have a0 := cell_in hHeld (z := w5.heap.size) (v := .int .u8 1) (by go_simp)
    have HKP := HKEEP.out _ hHeld
    obtain ⟨q0, q1, q2, q3⟩ := HKP
    have HROW7 := Lib.hid (row_kept HROW.out (Kept.ofBelow hHeld (fun _ => False)) (fun _ _ x => x))
    have HSRT := Lib.hid (sort_any (v := .slice (some ⟨g, 0, none⟩) 1 c) (vs := [k]) (r := [k]) HROW7.out (by simp) (by simp) (fun _ => Iff.rfl) (by simp))
    have HLN := Lib.hid (show W.heap.size + 1 + 1 + 1 < _ from Nat.lt_of_lt_of_le ln hHeld.size)
    clear hHeld cb1 c01 cn cg HKEEP HN 
    go_wp2_with (go_at_call 22; refine (bkids_const _).mono ?_; rintro e w8 ⟨rfl, rfl⟩)
    refine wp_loop_rounds 1 ?_
    rw [rounds_succ]
    go_wp2_with fail
    rw [rounds_succ]
    go_wp2_with (go_at_call 23; refine HSRT.out.mono ?_; rintro e w8 ⟨rfl, hrow8, hK8⟩; have q8 := (hK8.cell (x := ⟨W.heap.size + 1 + 1 + 1, 0, none⟩) HLN.out (fun e => HT5.out e)).trans q2; have HROW8 := Lib.hid hrow8; have HK8 := Lib.hid hK8; clear hrow8 hK8)
    go_ret
    obtain ⟨g8, c8, e8, l8, x8⟩ := one_row HROW8.out
    simp only [Value.slice.injEq, Option.some.injEq, Addr.mk.injEq, and_true, true_and] at e8
    obtain ⟨rfl, rfl⟩ := e8
    exact ⟨g, c, rfl, l8, x8, HB1.out.trans ((HH7.out.mono (by omega)).trans (HK8.out.below (fun i hi e => by have := (HROW.out.lt i e).1; omega) (by have := HH7.out.size; omega)))⟩
  refine AllReadyH.cons (by simp only [List.getElem?_toArray, List.getElem?_cons_zero, List.getElem?_cons_succ]; rfl) (fun K hK => ?_) AllReadyH.nil
  go_simp
  refine hK.out _ _ (bel_alloc hHeld _) (fun hHeld => ?_)
  clear hK K
  try simp only [Act.put, List.setIfInBounds_toArray, List.set_cons_zero, List.set_cons_succ]
  refine wpAnyH_ready (rs := [8]) (by kernel_rfl) (by simp) ?_
  refine AllReadyH.cons (by simp only [List.getElem?_toArray, List.getElem?_cons_zero, List.getElem?_cons_succ]; rfl) (fun K hK => ?_) AllReadyH.nil
  go_simp
  refine (HN.out _ hHeld).mono ?_
  rintro e w5 ⟨rfl, hb5⟩
  refine hK.out _ _ (bel_call hHeld hb5) (fun hHeld => ?_)
  have HB5 := Lib.hid hHeld
  have A5 : At7 w5 w1.heap.size (.int .u8 0) (.int .u8 0) (.int .i64 0) (.int .i64 0) (.int .i64 0) (.int .u64 0) (.int .u8 0) := ((At7.new w1.drew (.int .u8 0) (.int .u8 0) (.int .i64 0) (.int .i64 0) (.int .i64 0) (.int .u64 0) (.int .u8 0) 56).keep hb5)
  have F5 : ∀ j, w5.frozen? ⟨w1.heap.size, j, none⟩ = false := fz_new w1.drew w5 #[.int .u8 0, .int .u8 0, .int .i64 0, .int .i64 0, .int .i64 0, .int .u64 0, .int .u8 0] 56 hb5
  clear hK K
  try simp only [Act.put, List.setIfInBounds_toArray, List.set_cons_zero, List.set_cons_succ]
  refine wpAnyH_take (i := 9) (v := .tuple #[.agg #[.int .u8 1, .int .u8 ((wd : Nat) : Int), .int .i64 k0, .int .i64 k1, .int .i64 k2, .int .u64 ((nn : Nat) : Int), .int .u8 ((l : Nat) : Int)], .int .i64 0]) (by simp only [List.getElem?_toArray, List.getElem?_cons_zero, List.getElem?_cons_succ]; rfl) (by kernel_rfl) (by kernel_rfl) (by kernel_rfl) (by exact fun _ _ _ h => h) (Or.inl ⟨by rfl, ?_⟩) hHeld ?_
  · intro w' hSw
    obtain ⟨s0, s1, s2, s3⟩ := HKEEP.out _ hSw; go_simp; try rfl
  simp only [Act.put, List.setIfInBounds_toArray, List.set_cons_zero, List.set_cons_succ]
  refine wpAnyH_take (i := 10) (v := .agg #[.int .u8 1, .int .u8 ((wd : Nat) : Int), .int .i64 k0, .int .i64 k1, .int .i64 k2, .int .u64 ((nn : Nat) : Int), .int .u8 ((l : Nat) : Int)]) (by simp only [List.getElem?_toArray, List.getElem?_cons_zero, List.getElem?_cons_succ]; rfl) (by kernel_rfl) (by kernel_rfl) (by kernel_rfl) (by exact fun _ _ _ h => h) (Or.inl ⟨by rfl, ?_⟩) hHeld ?_
  · intro w' hSw
    obtain ⟨s0, s1, s2, s3⟩ := HKEEP.out _ hSw; go_simp; try rfl
  simp only [Act.put, List.setIfInBounds_toArray, List.set_cons_zero, List.set_cons_succ]
  refine wpAnyH_take (i := 11) (v := .int .i64 0) (by simp only [List.getElem?_toArray, List.getElem?_cons_zero, List.getElem?_cons_succ]; rfl) (by kernel_rfl) (by kernel_rfl) (by kernel_rfl) (by exact fun _ _ _ h => h) (Or.inl ⟨by rfl, ?_⟩) hHeld ?_
  · intro w' hSw
    obtain ⟨s0, s1, s2, s3⟩ := HKEEP.out _ hSw; go_simp; try rfl
  simp only [Act.put, List.setIfInBounds_toArray, List.set_cons_zero, List.set_cons_succ]
  refine wpAnyH_ready (rs := [13]) (by kernel_rfl) (by simp) ?_
  refine AllReadyH.cons (by simp only [List.getElem?_toArray, List.getElem?_cons_zero, List.getElem?_cons_succ]; rfl) (fun K hK => ?_) AllReadyH.nil
  unfold At7 at A5
  have z5 : w1.heap.size < w5.heap.size := by have := hb5.size; simp at this; omega
  obtain ⟨y0, y1, y2, y3, y4, y5, y6⟩ := A5
  have f0 := F5 0
  have f1 := F5 1
  have f2 := F5 2
  have f3 := F5 3
  have f4 := F5 4
  have f5 := F5 5
  have f6 := F5 6
  clear F5 hb5
  go_simp
  refine hK.out _ _ ?hb (fun hHeld => ?_)
  case hb => (iterate 7 (refine Below.setCell ?_ (show w1.heap.size ≤ w1.heap.size from Nat.le_refl _) _)); exact HB5.out
  clear hK K
  try simp only [Act.put, List.setIfInBounds_toArray, List.set_cons_zero, List.set_cons_succ]
  refine wpAnyH_ready (rs := [14]) (by kernel_rfl) (by simp) ?_
  refine AllReadyH.cons (by simp only [List.getElem?_toArray, List.getElem?_cons_zero, List.getElem?_cons_succ]; rfl) (fun K hK => ?_) AllReadyH.nil
  go_simp
  refine hK.out _ _ hHeld (fun hHeld => ?_)
  clear hK K
  try simp only [Act.put, List.setIfInBounds_toArray, List.set_cons_zero, List.set_cons_succ]
  refine wpAnyH_done (by kernel_rfl) ?_ _
  have HH7 := Lib.hid hHeld
  have a0 := cell_in hHeld (z := w1.heap.size) (v := .int .u8 1) (by go_simp)
  have HKP := HKEEP.out _ hHeld
  obtain ⟨q0, q1, q2, q3⟩ := HKP
  have HROW7 := Lib.hid (row_kept HROW.out (Kept.ofBelow hHeld (fun _ => False)) (fun _ _ x => x))
  have HSRT := Lib.hid (sort_any (v := .slice (some ⟨g, 0, none⟩) 1 c) (vs := [k]) (r := [k]) HROW7.out (by simp) (by simp) (fun _ => Iff.rfl) (by simp))
  have HLN := Lib.hid (show W.heap.size + 1 + 1 + 1 < _ from Nat.lt_of_lt_of_le ln hHeld.size)
  clear hHeld cb1 c01 cn cg HKEEP HN 
  go_wp2_with (go_at_call 22; refine (bkids_const _).mono ?_; rintro e w8 ⟨rfl, rfl⟩)
  refine wp_loop_rounds 1 ?_
  rw [rounds_succ]
  go_wp2_with fail
  rw [rounds_succ]
  go_wp2_with (go_at_call 23; refine HSRT.out.mono ?_; rintro e w8 ⟨rfl, hrow8, hK8⟩; have q8 := (hK8.cell (x := ⟨W.heap.size + 1 + 1 + 1, 0, none⟩) HLN.out (fun e => HT5.out e)).trans q2; have HROW8 := Lib.hid hrow8; have HK8 := Lib.hid hK8; clear hrow8 hK8)
  go_ret
  obtain ⟨g8, c8, e8, l8, x8⟩ := one_row HROW8.out
  simp only [Value.slice.injEq, Option.some.injEq, Addr.mk.injEq, and_true, true_and] at e8
  obtain ⟨rfl, rfl⟩ := e8
  exact ⟨g, c, rfl, l8, x8, HB1.out.trans ((HH7.out.mono (by omega)).trans (HK8.out.below (fun i hi e => by have := (HROW.out.lt i e).1; omega) (by have := HH7.out.size; omega)))⟩
end Bl
end Go.Proofs.YthelkbdiedfmfaaGreat
