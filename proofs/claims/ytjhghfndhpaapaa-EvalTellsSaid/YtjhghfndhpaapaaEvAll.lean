/-
  All of layer eval, as a fact on one call.
-/
import Derived.Test.YtjhghfndhpaapaaEvBelow
import Derived.Test.YtjhghfndhpaapaaEvVecA
import Derived.Test.YtjhghfndhpaapaaEvEval
import Derived.Deep.LoopGhost
namespace Go.Proofs.Ytjhghfndhpaapaa
open Go.RowKit Go.Maps Bv
namespace Tm
set_option maxHeartbeats 2000000
set_option maxRecDepth 100000

/-- While the numbers are gone through: the list of them, the map of the vectors that stand. -/
structure DoneAt (W : World) (base : Nat) (v : Value) (N : List Nat) (L : List Nd) (a : List Nat) (bm i : Nat) (w : World) : Prop where
  row : w.ownsRow base 3 1 v N.length (todoRow N)
  tab : ∃ D, w.ownsMap Try.prog 3 bvElem bm i D ∧ ValTab L a (N.take i) D
  bel : Below W.heap.size W w
  ge : W.heap.size ≤ bm
  ne : v.ownBlock ≠ some bm
theorem DoneAt.call {W w w' : World} {base : Nat} {v : Value} {N : List Nat} {L : List Nd} {a : List Nat} {bm i : Nat} (h : DoneAt W base v N L a bm i w) (k : Below w.heap.size w w') : DoneAt W base v N L a bm i w' := by
  refine ⟨row_kept h.row (Kept.ofBelow k (fun _ => False)) (fun _ _ x => x), ?_, bel_call h.bel k, h.ge, h.ne⟩
  obtain ⟨D, ⟨es, clock, hb, r⟩, hv⟩ := h.tab
  exact ⟨D, ⟨es, clock, (k.block bm (Array.getElem?_eq_some_iff.1 hb).1).trans hb, r⟩, hv⟩

theorem row_shape {w : World} {base n : Nat} {e : TypeId} {v : Value} {xs : List Value} (h : w.ownsRow base e 1 v n xs) : ∃ a c, v = .slice a n c := by
  rcases h with ⟨_, ⟨h1, h2⟩ | ⟨g, cap, cur, hv, _⟩⟩
  · exact ⟨none, 0, by rw [h1, h2]⟩
  · exact ⟨_, _, hv⟩

theorem row_int_at {w : World} {base : Nat} {v : Value} {N : List Nat} {i k : Nat} (h : w.ownsRow base 3 1 v N.length (todoRow N)) (hk : N[i]? = some k) :
    ∃ g c, v = .slice (some ⟨g, 0, none⟩) N.length c ∧ g < w.heap.size ∧ w.cell? ⟨g, i, none⟩ = some (.int .i64 ((k : Nat) : Int)) := by
  have hlt := (List.getElem?_eq_some_iff.1 hk).1
  have hr := h
  rcases h with ⟨_, ⟨h1, h2⟩ | ⟨g, cap, cur, hv, hb, hh, _⟩⟩
  · omega
  · refine ⟨g, cap, hv, (Array.getElem?_eq_some_iff.1 hh).1, ?_⟩
    have := hr.cells (g := g) (by rw [hv]; rfl) i (.int .i64 ((k : Nat) : Int)) (by simp [todoRow, hk])
    have e : (⟨g, 0, none⟩ : Addr).add i = ⟨g, i, none⟩ := by
      unfold Addr.add
      split <;> simp_all
    rw [e] at this
    exact this
/-- Kids of a number of the list stand ahead of it. -/
theorem kids_ahead {L : List Nd} {T : List Int} {N : List Nat} (g : Gd L) (h : Numbers L T N) {i k : Nat} {x : Nd} (hk : N[i]? = some k) (hx : L[k]? = some x) (j : Nat) (hj : j < kc x.o) : (x.kid j).toNat ∈ N.take i := by
  have hin := h.kids k (List.mem_of_getElem? hk) x hx j hj
  have hlt := g.kid k x hx j hj
  obtain ⟨q, hq⟩ := List.getElem?_of_mem hin
  obtain ⟨hql, hqe⟩ := List.getElem?_eq_some_iff.1 hq
  obtain ⟨hil, hie⟩ := List.getElem?_eq_some_iff.1 hk
  have hqi : q < i := by
    rcases Nat.lt_trichotomy q i with c | c | c
    · exact c
    · subst c; rw [hie] at hqe; omega
    · have := List.pairwise_iff_getElem.1 h.rise i q hil hql c
      rw [hie, hqe] at this
      omega
  exact List.mem_of_getElem? (by rw [List.getElem?_take, if_pos hqi]; exact hq)
theorem DoneAt.step {W w w' : World} {base : Nat} {v : Value} {N : List Nat} {L : List Nd} {a : List Nat} {bm i k : Nat} {D D' : DataW Unit} (h : DoneAt W base v N L a bm i w) (hv : ValTab L a (N.take i) D) (hk : N[i]? = some k) (h6 : I64 ((k : Nat) : Int))
    (hD' : D' = D.put (.int .i64 ((k : Nat) : Int)) (.agg [.lit (.int .u8 ((widAt L ((k : Nat) : Int) : Nat) : Int)), .lit (.int .u64 ((evN L a k : Nat) : Int))])) (ho : w'.ownsMap Try.prog 3 bvElem bm (i + 1) D') (hg : w.grownBy w' (some bm)) : DoneAt W base v N L a bm (i + 1) w' := by
  have K := kept_grown hg (F := fun i => i = bm) (fun i e => by simpa using e.symm)
  refine ⟨row_kept h.row K (fun g e c => h.ne (by rw [e, c])), ⟨D', ho, ?_⟩, h.bel.trans (K.below (fun i hi c => by have := h.ge; omega) h.bel.size), h.ge, h.ne⟩
  rw [hD', show N.take (i + 1) = N.take i ++ [k] by rw [List.take_add_one, hk]; rfl]
  exact hv.add h6

/-- While the answers are laid into their list. -/
structure OutAt (W : World) (L : List Nd) (a : List Nat) (T : List Int) (n g bm i : Nat) (D : DataW Unit) (w : World) : Prop where
  cs : ∀ (k : Nat) (t : Int), T[k]? = some t → w.cell? ⟨g, k * 2, none⟩ = some (.int .u8 ((if k < i then widAt L t else 0 : Nat) : Int)) ∧ w.cell? ⟨g, k * 2 + 1, none⟩ = some (.int .u64 ((if k < i then evN L a t.toNat else 0 : Nat) : Int))
  fr : ∀ o, w.frozen? ⟨g, o, none⟩ = false
  l : g < w.heap.size
  map : w.ownsMap Try.prog 3 bvElem bm n D
  gm : bm < g
  bel : Below W.heap.size W w
  ge : W.heap.size ≤ g
theorem out_start {W w : World} {L : List Nd} {a : List Nat} {T : List Int} {n bm : Nat} {D : DataW Unit} (hO : w.ownsMap Try.prog 3 bvElem bm n D) (hb : Below W.heap.size W w) :
    OutAt W L a T n w.heap.size bm 0 D (w.alloc (.cells (madeCells #[.int .u8 0, .int .u64 0] (T.length * 2)) 31)) := by
  have hz := made_bv T.length
  generalize madeCells #[.int .u8 0, .int .u64 0] (T.length * 2) = C at hz ⊢
  have h2 := (MapKept.heap_alloc w (.cells C 31)).1
  refine ⟨fun k t hk => ⟨?_, ?_⟩, fun o => ?_, by rw [size_alloc]; omega, hO.alloc _, hO.lt, bel_alloc hb _, hb.size⟩
  · have hl := (List.getElem?_eq_some_iff.1 hk).1
    unfold World.cell?
    rw [h2]
    show C[k * 2]? = _
    rw [hz _ (by omega), if_pos (by omega), if_neg (by omega)]
    rfl
  · have hl := (List.getElem?_eq_some_iff.1 hk).1
    unfold World.cell?
    rw [h2]
    show C[k * 2 + 1]? = _
    rw [hz _ (by omega), if_neg (by omega), if_neg (by omega)]
    rfl
  · unfold World.frozen?
    rw [h2]
    simp
theorem OutAt.store {W w : World} {L : List Nd} {a : List Nat} {T : List Int} {n g bm i : Nat} {D : DataW Unit} {t : Int} (h : OutAt W L a T n g bm i D w) (ht : T[i]? = some t) :
    OutAt W L a T n g bm (i + 1) D ((w.setCell ⟨g, i * 2, none⟩ (.int .u8 ((widAt L t : Nat) : Int))).setCell ⟨g, i * 2 + 1, none⟩ (.int .u64 ((evN L a t.toNat : Nat) : Int))) := by
  refine ⟨fun k s hk => ⟨?_, ?_⟩, fun o => by rw [World.frozen?_setCell, World.frozen?_setCell]; exact h.fr o, by simpa [World.setCell] using h.l, ?_, h.gm, (h.bel.setCell h.ge _).setCell h.ge _, h.ge⟩
  · rw [World.cell?_setCell_other _ _ _ _ (by simp; try omega)]
    by_cases e : k = i
    · subst e
      rw [ht] at hk
      simp at hk
      subst hk
      rw [if_pos (by omega)]
      exact World.cell?_setCell_same' _ _ _ (by rw [(h.cs k t ht).1]; rfl)
    · rw [World.cell?_setCell_other _ _ _ _ (by simp; try omega), (h.cs k s hk).1]
      by_cases hlt : k < i
      · rw [if_pos hlt, if_pos (by omega)]
      · rw [if_neg hlt, if_neg (by omega)]
  · by_cases e : k = i
    · subst e
      rw [ht] at hk
      simp at hk
      subst hk
      rw [if_pos (by omega)]
      exact World.cell?_setCell_same' _ _ _ (by rw [World.cell?_setCell_other _ _ _ _ (by simp), (h.cs k t ht).2]; rfl)
    · rw [World.cell?_setCell_other _ _ _ _ (by simp; try omega), World.cell?_setCell_other _ _ _ _ (by simp; try omega), (h.cs k s hk).2]
      by_cases hlt : k < i
      · rw [if_pos hlt, if_pos (by omega)]
      · rw [if_neg hlt, if_neg (by omega)]
  · have := (h.map.setCell (a := ⟨g, i * 2, none⟩) (fun e => by have := h.gm; simp at e; omega) (.int .u8 ((widAt L t : Nat) : Int))).setCell (a := ⟨g, i * 2 + 1, none⟩) (fun e => by have := h.gm; simp at e; omega) (.int .u64 ((evN L a t.toNat : Nat) : Int))
    simpa using this

theorem run_makeMap_some {P : Program} (t k e : TypeId) (ht : P.underlying t = some (.map k e)) (n : Int) (w : World) : (Instr.makeMap t (some (.int .i64 n))).run P w = .ok (.map (some w.heap.size)) (w.alloc (.map #[] 0)) := by
  simp [Instr.makeMap, run_underlying ht, asInt, asIntOf]

theorem all_any {B p m : Nat} {sv : Value} {L : List Nd} {T : List Int} {a : List Nat} {W : World} {al aal : Option Addr} {ac aac : Nat} (S : StoreAt B W p m sv L) (hM : MayL L) (HT : IntsAt W al T) (h6 : ∀ t ∈ T, I64 t) (hb : (T.length + L.length + 1) * 8 ≤ 140737488355328) (HA : AsgAt W aal a) :
    Calls Try.prog 12 #[.pointer (some ⟨p, 0, none⟩), .slice al T.length ac, .slice aal a.length aac] W fun e W' => Below W.heap.size W W' ∧
      (((∀ t ∈ T, inB L t = true) ∧ ∃ g, e = .returned (.tuple #[.slice (some ⟨g, 0, none⟩) T.length T.length, .int .i64 0]) ∧ W.heap.size ≤ g ∧ ∀ (i : Nat) (t : Int), T[i]? = some t → VecAt W' g i (widAt L t) (evN L a t.toNat)) ∨
       ((∃ t ∈ T, inB L t = false) ∧ e = .returned (.tuple #[.slice none 0 0, .int .i64 2]))) := by
  have HN0 : Hid (∃ nv er, (er = 0 ∨ er = 2) ∧ Calls Try.prog 20 #[.pointer (some ⟨p, 0, none⟩), .int .i64 0] W fun e W' => e = .returned (.tuple #[Nd.val nv, .int .i64 er]) ∧ Below W.heap.size W W') := by
    by_cases hl : 0 < L.length
    · obtain ⟨x, hx⟩ : ∃ x, L[0]? = some x := ⟨_, List.getElem?_eq_getElem hl⟩
      exact ⟨x, 0, .inl rfl, node_yes S hx⟩
    · exact ⟨⟨0, 0, 0, 0, 0, 0, 0⟩, 2, .inr rfl, node_no S (by (have h0 : L.length = 0 := by omega); simp [inB, h0])⟩
  obtain ⟨nv, er, her, hcall⟩ := HN0.out
  unfold Nd.val at hcall
  have HC0 := Lib.hid hcall
  clear HN0 hcall
  have d1 : (er == 1) = false := by rcases her with e | e <;> subst e <;> rfl
  clear her
  have HS := Lib.hid S
  have HTT := Lib.hid HT
  have H6 := Lib.hid h6
  have HB := Lib.hid hb
  have HAA := Lib.hid HA
  have HMM := Lib.hid hM
  clear S HT h6 hb HA hM
  by_cases hall : ∀ t ∈ T, inB L t = true
  case neg =>
    have hex : ∃ t ∈ T, inB L t = false := by
      refine Classical.byContradiction (fun hc => hall (fun t ht => ?_))
      cases hh : inB L t
      · exact absurd ⟨t, ht, hh⟩ hc
      · rfl
    have HX := Lib.hid hex
    have HBL : Hid (∀ V : World, Below W.heap.size W V → Calls Try.prog 21 #[.pointer (some ⟨p, 0, none⟩), .slice al T.length ac] V fun e w' => e = .returned (.tuple #[.slice none 0 0, .int .i64 2]) ∧ Below V.heap.size V w') := fun V hV => (below_any (HS.out.call hV) (HTT.out.keep hV) H6.out HB.out).mono (by
      rintro e w' ⟨hb, ⟨h1, _⟩ | ⟨_, h2⟩⟩
      · exact absurd h1 hall
      · exact ⟨h2, hb⟩)
    clear hall hex
    go_enter Try.func12, Try.ntmps12
    go_wp2_with (first | (go_at_call 20; refine HC0.out.mono ?_; rintro e w0 ⟨rfl, hb0⟩) | (go_at_call 21; have hbv := bel_alloc hb0 (.cells #[.int .u8 ((nv.o : Nat) : Int), .int .u8 ((nv.w : Nat) : Int), .int .i64 nv.k0, .int .i64 nv.k1, .int .i64 nv.k2, .int .u64 ((nv.n : Nat) : Int), .int .u8 ((nv.l : Nat) : Int)] 62); refine (HBL.out _ hbv).mono ?_; rintro e w1 ⟨rfl, hb1⟩))
    exact bodyPost_ret (v := .tuple #[.slice none 0 0, .int .i64 2]) (by simp [results, Try.results12, go_sem]) rfl ⟨bel_call hbv hb1, .inr ⟨HX.out, rfl⟩⟩
  case pos =>
    have HALL := Lib.hid hall
    have HBL : Hid (∀ V : World, Below W.heap.size W V → Calls Try.prog 21 #[.pointer (some ⟨p, 0, none⟩), .slice al T.length ac] V fun e w' => ∃ v N, e = .returned (.tuple #[v, .int .i64 0]) ∧ w'.ownsRow V.heap.size 3 1 v N.length (todoRow N) ∧ Numbers L T N ∧ Below V.heap.size V w') := fun V hV => (below_any (HS.out.call hV) (HTT.out.keep hV) H6.out HB.out).mono (by
      rintro e w' ⟨hb, ⟨_, v, N, h1, h2, h3⟩ | ⟨⟨t, ht, h1⟩, _⟩⟩
      · exact ⟨v, N, h1, h2, h3, hb⟩
      · rw [hall t ht] at h1; simp at h1)
    have hmm := fun n w => run_makeMap_some (P := Try.prog) 68 3 31 Try.underlying68 n w
    clear hall
    go_enter Try.func12, Try.ntmps12
    go_wp2_with (first | (go_at_call 20; refine HC0.out.mono ?_; rintro e w0 ⟨rfl, hb0⟩) | (go_at_call 21; have hbv := bel_alloc hb0 (.cells #[.int .u8 ((nv.o : Nat) : Int), .int .u8 ((nv.w : Nat) : Int), .int .i64 nv.k0, .int .i64 nv.k1, .int .i64 nv.k2, .int .u64 ((nv.n : Nat) : Int), .int .u8 ((nv.l : Nat) : Int)] 62); refine (HBL.out _ hbv).mono ?_; rintro e w1 ⟨v, N, rfl, hrow, hN, hb1⟩; obtain ⟨va, vc, rfl⟩ := row_shape hrow))
    obtain ⟨bb, hbb⟩ : ∃ bb, bb = (w0.alloc (.cells #[.int .u8 ((nv.o : Nat) : Int), .int .u8 ((nv.w : Nat) : Int), .int .i64 nv.k0, .int .i64 nv.k1, .int .i64 nv.k2, .int .u64 ((nv.n : Nat) : Int), .int .u8 ((nv.l : Nat) : Int)] 62)).heap.size := ⟨_, rfl⟩
    rw [← hbb] at hrow
    have HST : Hid (DoneAt W bb (.slice va N.length vc) N L a w1.heap.size 0 (w1.alloc (.map #[] 0))) := by
      have hw1 := bel_call hbv hb1
      exact ⟨hrow.alloc _, ⟨_, World.ownsMap_made w1 _ _ _, valTab_nil L a⟩, bel_alloc hw1 _, hw1.size, fun e => by have := (hrow.lt _ e).2; omega⟩
    have HN := Lib.hid hN
    have HW1 := Lib.hid (bel_call hbv hb1)
    clear hb0 hb1 hbv hrow hN hbb HC0 HBL hmm d1
    obtain ⟨bm, hbm⟩ : ∃ bm, w1.heap.size = bm := ⟨_, rfl⟩
    rw [hbm] at HST
    simp only [hbm]
    go_loopg [44] N.length (fun gk u44 wr => ∃ i : Nat, u44 = .int .i64 ((i : Nat) : Int) ∧ i + gk = N.length ∧ DoneAt W bb (.slice va N.length vc) N L a bm i wr)
    case atStart => exact ⟨0, rfl, by omega, HST.out⟩
    case round =>
      obtain ⟨i, rfl, hg, hd⟩ := hrel
      clear HST hbm HW1
      have HG := Lib.hid hg
      by_cases hi : i < N.length
      case pos =>
        obtain ⟨k, hk⟩ : ∃ k, N[i]? = some k := ⟨_, List.getElem?_eq_getElem hi⟩
        obtain ⟨gq, cq, hsl, lgq, hcell⟩ := row_int_at hd.row hk
        simp only [Value.slice.injEq] at hsl
        obtain ⟨rfl, _, rfl⟩ := hsl
        have hkL := HN.out.lt k (List.mem_of_getElem? hk)
        obtain ⟨x, hx⟩ : ∃ x, L[k]? = some x := ⟨_, List.getElem?_eq_getElem hkL⟩
        have HYES := Lib.hid (node_yes (HS.out.call hd.bel) hx)
        unfold Nd.val at HYES
        have hlen := HS.out.good.len
        have h6k : I64 ((k : Nat) : Int) := by unfold I64; omega
        have hxw : x.w = widAt L ((k : Nat) : Int) := by
          unfold widAt
          rw [show ((k : Nat) : Int).toNat = k by omega, hx]
          rfl
        have q0 : (0 : Int) ≤ ((i : Nat) : Int) := by omega
        have q1 : ((i : Nat) : Int) < ((N.length : Nat) : Int) := by omega
        have hNl : N.length ≤ 200000 := Nat.le_trans (nodup_le L.length N (HN.out.rise.imp (fun h e => by omega)) HN.out.lt) hlen
        have r1 : IntKind.i64.wrap (((i : Nat) : Int) + 1) = (((i + 1 : Nat) : Nat) : Int) := by rw [IntKind.wrap_i64]; omega
        have r2 : wrap64 (((i : Nat) : Int) + 1) = (((i + 1 : Nat) : Nat) : Int) := by unfold wrap64; rw [← IntKind.wrap_i64]; exact r1
        have HR2 := Lib.hid r2
        have HI := Lib.hid hi
        have HNL := Lib.hid hNl
        have HVEC : Hid (∀ w', DoneAt W bb (.slice (some ⟨gq, 0, none⟩) N.length vc) N L a bm i w' → Calls Try.prog 22 #[.agg #[.int .u8 ((x.o : Nat) : Int), .int .u8 ((x.w : Nat) : Int), .int .i64 x.k0, .int .i64 x.k1, .int .i64 x.k2, .int .u64 ((x.n : Nat) : Int), .int .u8 ((x.l : Nat) : Int)], .map (some bm), .slice aal a.length aac] w' fun e w5 => e = .returned (.tuple #[.agg #[.int .u8 ((x.w : Nat) : Int), .int .u64 ((evN L a k : Nat) : Int)], .int .i64 0]) ∧ Below w'.heap.size w' w5) := fun w' hw' => by
          obtain ⟨D, hO, hV⟩ := hw'.tab
          exact vec_any HS.out.good HMM.out hx hO hV (fun j hj => kids_ahead HS.out.good HN.out hk hx j hj) (HAA.out.keep hw'.bel)
        have HD := Lib.hid hd
        have HKX := Lib.hid (And.intro hk (And.intro h6k hxw))
        obtain ⟨z, hz⟩ : ∃ z, evN L a k = z := ⟨_, rfl⟩
        rw [hz] at HVEC
        have HZ := Lib.hid hz
        clear hd hg hi hk hx hkL h6k hxw hlen hNl r1 r2 hz
        go_wp2_with (first | (go_at_call 20; refine HYES.out.mono ?_; rintro e w2 ⟨rfl, hb2⟩) | (go_at_call 22; have HD3 := Lib.hid (HD.out.call (bel_alloc hb2 (.cells #[.int .u8 ((x.o : Nat) : Int), .int .u8 ((x.w : Nat) : Int), .int .i64 x.k0, .int .i64 x.k1, .int .i64 x.k2, .int .u64 ((x.n : Nat) : Int), .int .u8 ((x.l : Nat) : Int)] 62))); refine (HVEC.out _ HD3.out).mono ?_; rintro e w4 ⟨rfl, hb4⟩; have HD5 := Lib.hid ((HD3.out.call hb4).call (bel_alloc (Below.refl _ _) (.cells #[.int .u8 ((x.w : Nat) : Int), .int .u64 ((z : Nat) : Int)] 31))); obtain ⟨D, hO, hV⟩ := HD5.out.tab; obtain ⟨w6, hrun, ho6, hg6⟩ := hO.update law_int Try.underlying68 (show i < maxLen by have := HI.out; have := HNL.out; unfold maxLen; omega) (key_int HKX.out.2.1) (bvElem_mk ((x.w : Nat) : Int) ((z : Nat) : Int)); have HD6 := Lib.hid (HD5.out.step hV HKX.out.1 HKX.out.2.1 (by rw [HKX.out.2.2, ← HZ.out]) ho6 hg6); clear hO hV ho6 hg6))
        go_roundg (gk - 1)
        case measure => have := HG.out; have := HI.out; omega
        case rel => exact ⟨i + 1, by first | rfl | (rw [HR2.out]) | (congr 1; exact HR2.out), by have := HG.out; have := HI.out; omega, HD6.out⟩
      case neg =>
        have hie : i = N.length := by omega
        subst hie
        obtain ⟨i0, hinfo, hz0, hz1, hz2⟩ := info_parts info_bv
        have hmk : ∀ W, (Instr.makeSlice 43 (.int .i64 ((T.length : Nat) : Int)) (.int .i64 ((T.length : Nat) : Int))).run Try.prog W = .ok (.slice (some ⟨W.heap.size, 0, none⟩) T.length T.length) (W.alloc (.cells (madeCells #[.int .u8 0, .int .u64 0] (T.length * 2)) 31)) := by
          intro W
          have hB := HB.out
          have h := run_make W 43 31 i0 (.agg #[.int .u8 0, .int .u64 0]) Try.underlying43 hinfo hz0 .i64 .i64 ((T.length : Nat) : Int) ((T.length : Nat) : Int) (by omega) (Int.le_refl _) (by rw [hz2]; omega) (by omega)
          rw [hz1, Int.toNat_natCast] at h
          exact h
        obtain ⟨D, hO, hV⟩ := hd.tab
        rw [List.take_length] at hV
        have HOUT := Lib.hid (out_start (L := L) (a := a) (T := T) hO hd.bel)
        have HV := Lib.hid hV
        clear hd hg hi hinfo hz0 hz1 hz2 hO hV
        go_wp2_with fail
        clear hmk
        obtain ⟨gl, hgl⟩ : ∃ gl, wr.heap.size = gl := ⟨_, rfl⟩
        rw [hgl] at HOUT
        simp only [hgl]
        go_loopg [73] T.length (fun gk u73 wq => ∃ i : Nat, u73 = .int .i64 ((i : Nat) : Int) ∧ i + gk = T.length ∧ OutAt W L a T N.length gl bm i D wq)
        case atStart => exact ⟨0, rfl, by omega, HOUT.out⟩
        case round =>
          obtain ⟨i, rfl, hg, ho⟩ := hrel
          clear HOUT hgl
          have HG2 := Lib.hid hg
          have lg := ho.l
          by_cases hi : i < T.length
          case pos =>
            obtain ⟨t, ht⟩ : ∃ t, T[i]? = some t := ⟨_, List.getElem?_eq_getElem hi⟩
            rcases HTT.out.keep ho.bel with h0 | ⟨bl, ol, rfl, lbl, hc⟩
            · subst h0; simp at hi
            have hct := hc i t ht
            have htm := List.mem_of_getElem? ht
            have hlk := look_bv ho.map HV.out (H6.out t htm)
            obtain ⟨ht0, htN⟩ := HN.out.top t htm
            have e1 : vwN L N t = widAt L t := by unfold vwN; rw [if_pos ⟨ht0, htN⟩]
            have e2 : vnN L a N t = evN L a t.toNat := by unfold vnN; rw [if_pos ⟨ht0, htN⟩]
            rw [e1, e2] at hlk
            obtain ⟨y, hy⟩ : ∃ y, widAt L t = y := ⟨_, rfl⟩
            obtain ⟨z, hz⟩ : ∃ z, evN L a t.toNat = z := ⟨_, rfl⟩
            have hst := ho.store ht
            obtain ⟨c0, c1⟩ := ho.cs i t ht
            rw [if_neg (by omega)] at c0 c1
            have f0 := ho.fr (i * 2)
            have f1 := ho.fr (i * 2 + 1)
            rw [hy, hz] at hlk hst
            have HSTT := Lib.hid hst
            have q0 : (0 : Int) ≤ ((i : Nat) : Int) := by omega
            have q1 : ((i : Nat) : Int) < ((T.length : Nat) : Int) := by omega
            have r1 : IntKind.i64.wrap (((i : Nat) : Int) + 1) = (((i + 1 : Nat) : Nat) : Int) := by rw [IntKind.wrap_i64]; have := HB.out; omega
            have r2 : wrap64 (((i : Nat) : Int) + 1) = (((i + 1 : Nat) : Nat) : Int) := by unfold wrap64; rw [← IntKind.wrap_i64]; exact r1
            have HR2 := Lib.hid r2
            have HI := Lib.hid hi
            clear ho ht hst hc htm ht0 htN e1 e2 hy hz r1 r2 hi hg
            go_wp2_with fail
            go_roundg (gk - 1)
            case measure => have := HG2.out; have := HI.out; omega
            case rel => exact ⟨i + 1, by first | rfl | (rw [HR2.out]) | (congr 1; exact HR2.out), by have := HG2.out; have := HI.out; omega, HSTT.out⟩
          case neg =>
            have hie : i = T.length := by omega
            subst hie
            have HO := Lib.hid ho
            clear ho hi hg
            go_wp2_with fail
            refine bodyPost_ret (v := .tuple #[.slice (some ⟨gl, 0, none⟩) T.length T.length, .int .i64 0]) (by simp [results, Try.results12, go_sem]) rfl ⟨HO.out.bel, .inl ⟨HALL.out, gl, rfl, HO.out.ge, fun k t hk => ?_⟩⟩
            have hc := HO.out.cs k t hk
            rw [if_pos (List.getElem?_eq_some_iff.1 hk).1, if_pos (List.getElem?_eq_some_iff.1 hk).1] at hc
            exact ⟨HO.out.l, hc.1, hc.2⟩
end Tm
end Go.Proofs.Ytjhghfndhpaapaa
