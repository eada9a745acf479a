/-
  Vars of layer term: the variables below a node, rising, as a fact on one call.
-/
import Derived.Test.YtjhghfndhpaapaaTmP5
import Derived.Deep.LoopGhost
namespace Go.Proofs.Ytjhghfndhpaapaa
open Go.RowKit Go.Maps Bv
namespace Tm
set_option maxHeartbeats 2000000
set_option maxRecDepth 100000

theorem vars_yes {B p m k : Nat} {sv : Value} {L : List Nd} {W : World} (S : StoreAt B W p m sv L) (hk : k < L.length) :
    Calls Try.prog 13 #[.pointer (some ⟨p, 0, none⟩), .int .i64 ((k : Nat) : Int)] W fun e W' =>
      ∃ v, e = .returned (.tuple #[v, .int .i64 0]) ∧ W'.ownsRow W.heap.size 3 1 v (varsOf L k).length (todoRow (varsOf L k)) ∧ Below W.heap.size W W' := by
  obtain ⟨a, c, rfl⟩ := S.shape
  have c0 := S.c0
  have c1 := S.c1
  have hlen := S.good.len
  have HI := Lib.hid (show inB L ((k : Nat) : Int) = true by simp [inB]; omega)
  obtain ⟨i0, hinfo, hz0, hz1, hz2⟩ := info_parts info_bool
  obtain ⟨i3, hinfo3, hy0, hy1, hy2⟩ := info_parts info_int
  have hmk : ∀ W, (Instr.makeSlice 71 (.int .i64 (((k : Nat) : Int) + 1)) (.int .i64 (((k : Nat) : Int) + 1))).run Try.prog W = .ok (.slice (some ⟨W.heap.size, 0, none⟩) (k + 1) (k + 1)) (W.alloc (.cells (madeCells #[.bool false] (k + 1)) 4)) := by
    intro W
    have h := run_make W 71 4 i0 (.bool false) Try.underlying71 hinfo hz0 .i64 .i64 (((k : Nat) : Int) + 1) (((k : Nat) : Int) + 1) (by omega) (Int.le_refl _) (by rw [hz2]; omega) (by omega)
    have htn : (((k : Nat) : Int) + 1).toNat = k + 1 := by omega
    rw [hz1, htn, Nat.mul_one] at h
    exact h
  have hmf : ∀ (fn : Fn) (first cap : Array Value) (w : World), (Instr.makeFunc fn first cap).run Try.prog w = .ok (.func fn first cap) w := fun _ _ _ _ => rfl
  have DS := Lib.hid (dfs_start W k)
  have HR := Lib.hid (reach_any DS.out (by simp; omega) (Nat.lt_succ_self k) (by simp) (by omega))
  clear hinfo hz0 hz1 hz2
  have HINFO := Lib.hid hinfo3
  have HY0 := Lib.hid hy0
  have HY1 := Lib.hid hy1
  have HY2 := Lib.hid hy2
  clear hinfo3 hy0 hy1 hy2
  go_enter Try.func13, Try.ntmps13
  go_wp2_with (first | (go_at_call 23; refine (none_made p m _ c1).mono ?_; rintro e w' ⟨rfl, rfl⟩) | (go_at_call 24; refine (has_any p _ L c _ _ c0).mono ?_; rw [HI.out]; rintro e w' ⟨rfl, rfl⟩) | (go_at_call 25; refine HR.out.mono ?_; rintro e w1 ⟨rfl, hr⟩))
  go_loopg [8] (meas k (mark (fun _ => false) k) [k]) (fun gk v8 wr => VarsRel L W (W.heap.size + 1) (W.heap.size + 1 + 1) W.heap.size k gk v8 wr)
  case atStart =>
    obtain ⟨tv1, hD, hK, hloc⟩ := hr
    have e1 : seen' (fun _ => false) k = mark (fun _ => false) k := by unfold seen'; rw [if_neg (by simp)]
    have e2 : todo' (fun _ => false) [] k = [k] := by unfold todo'; rw [if_neg (by simp)]; rfl
    rw [e1, e2] at hD
    refine ⟨_, tv1, [k], [], 0, hD, inv_start L k, World.ownsRow_nil _ _ _ _, ⟨by simp [Value.ownBlock], by simp [Value.ownBlock], by simp [Value.ownBlock]⟩, fun g h => by simp [Value.ownBlock] at h, ?_, rfl⟩
    have hb0 : Below W.heap.size W (((W.alloc (.cells (madeCells #[.bool false] (k + 1)) 4)).alloc (.cells #[.slice (some ⟨W.heap.size, 0, none⟩) (k + 1) (k + 1)] 71)).alloc (.cells #[.slice none 0 0] 42)) := bel_alloc (bel_alloc (bel_alloc (Below.refl _ _) _) _) _
    exact hb0.trans (hK.below (fun i hi hc => by
      rcases hc with h | h | h
      · omega
      · omega
      · simp [Value.ownBlock] at h) hb0.size)
  case round =>
    obtain ⟨seen, tv, T, vs, k', hD, hI, hrow, hne, hap, hbel, hmeas⟩ := hrel
    rcases List.eq_nil_or_concat T with rfl | ⟨T0, i, hT⟩
    · obtain ⟨ta, tc, rfl⟩ := hD.shape
      have c7 := hD.c7
      have hdone := hI.done
      have hvl : vs.length ≤ 1000000 := by
        have := nodup_le 256 vs hdone.1 (fun v hv => by
          obtain ⟨i, y, _, hy, ho, hn⟩ := (hdone.2 v).1 hv
          rw [← hn]
          exact S.good.var y (List.mem_of_getElem? hy) ho)
        omega
      have HS := Lib.hid (sort_any hrow hdone.1 (varsOf_rising L k) (fun x => (hdone.2 x).trans (mem_varsOf S.good).symm) hvl)
      have HB := Lib.hid hbel
      have HRW := Lib.hid hrow
      clear hD hI hrow hne hap hbel hmeas hr DS HR hmk c0 c1 S hdone
      go_wp2_with (go_at_call 27; refine HS.out.mono ?_; rintro e w2 ⟨rfl, hrow2, hK2⟩)
      refine bodyPost_ret (v := .tuple #[u8, .int .i64 0]) (by simp [results, Try.results13, go_sem]) rfl ?_
      exact ⟨u8, rfl, hrow2, HB.out.trans (hK2.below (fun i hi hc => by have := (HRW.out.lt i hc).1; omega) HB.out.size)⟩
    rw [List.concat_eq_append] at hT
    subst hT
    obtain ⟨g, tc, rfl, htc, lg, hlast⟩ := hD.last
    have hil : i < L.length := by
      have := (hI.re i (hI.ts i (by simp))).le S.good
      omega
    obtain ⟨x, hx⟩ : ∃ x, L[i]? = some x := ⟨_, List.getElem?_eq_getElem hil⟩
    have hTl := hI.len S.good
    obtain ⟨n1, hn1⟩ : ∃ n1, n1 = T0.length + 1 := ⟨_, rfl⟩
    obtain ⟨n0, hn0⟩ : ∃ n0, n0 = T0.length := ⟨_, rfl⟩
    have SR := S.kept (Kept.ofBelow hbel (fun _ => False)) (fun _ _ x => x)
    obtain ⟨gs, cs, hsv, hf⟩ := SR.shapeAt hx
    simp only [Value.slice.injEq] at hsv
    obtain ⟨rfl, _, rfl⟩ := hsv
    have s0 := SR.c0
    have lpr := SR.lt
    have lgs : gs < wr.heap.size := World.block_lt_of_cell? wr _ (hf 0 _ rfl)
    have f0 : wr.cell? ⟨gs, i * 7, none⟩ = some (.int .u8 ((x.o : Nat) : Int)) := hf 0 _ rfl
    have f1 := hf 1 _ rfl
    have f2 := hf 2 _ rfl
    have f3 := hf 3 _ rfl
    have f4 := hf 4 _ rfl
    have f5 := hf 5 _ rfl
    have f6 := hf 6 _ rfl
    have c7 := hD.c7
    have fz7 := hD.f7 0
    have l7 := hD.l7
    rw [← hn1] at c7
    rw [← hn0] at hlast
    have q0 : (0 : Int) < ((n1 : Nat) : Int) := by omega
    have q1 : IntKind.i64.wrap (((n1 : Nat) : Int) - 1) = ((n0 : Nat) : Int) := by rw [IntKind.wrap_i64]; simp at hTl; omega
    have q1' : wrap64 (((n1 : Nat) : Int) - 1) = ((n0 : Nat) : Int) := by unfold wrap64; rw [← IntKind.wrap_i64]; exact q1
    have q2 : ((n0 : Nat) : Int) < ((n1 : Nat) : Int) := by omega
    have q3 : ((i : Nat) : Int) < ((L.length : Nat) : Int) := by omega
    have q4 : ((n0 : Nat) : Int) ≤ ((tc : Nat) : Int) := by omega
    have G := S.good
    have HG := Lib.hid G
    have HX := Lib.hid hx
    have hkc := kc_le x.o
    rcases (by omega : kc x.o = 0 ∨ kc x.o = 1 ∨ kc x.o = 2 ∨ kc x.o = 3) with hc | hc | hc | hc
    · by_cases ho : x.o = 2
      · have HMV := Lib.hid (fun (w2 : World) (v9 : Value) (o : Obj) => mid_var (w2 := w2) (v9 := v9) (o := o) G hD hI hrow hne hap hbel hx ho hn0)
        have d2 : (((x.o : Nat) : Int) == 2) = true := by simp; omega
        have hv := G.var x (List.mem_of_getElem? hx) ho
        have r1 : IntKind.i64.wrap ((x.n : Nat) : Int) = ((x.n : Nat) : Int) := by rw [IntKind.wrap_i64]; omega
        have r2 : wrap64 ((x.n : Nat) : Int) = ((x.n : Nat) : Int) := by unfold wrap64; rw [← IntKind.wrap_i64]; exact r1
        have hvl : vs.length ≤ 256 := nodup_le 256 vs hI.vn (fun v hvv => by
          obtain ⟨i, y, _, _, hy, hoy, hn⟩ := (hI.vm v).1 hvv
          rw [← hn]
          exact G.var y (List.mem_of_getElem? hy) hoy)
        have hs0 : (wr.setCell ⟨W.heap.size + 1 + 1, 0, none⟩ (.slice (some ⟨g, 0, none⟩) n0 tc)).heap.size = wr.heap.size := by simp [World.setCell]
        have HRW := Lib.hid ((((row_setCell hrow (a := ⟨W.heap.size + 1 + 1, 0, none⟩) (.slice (some ⟨g, 0, none⟩) n0 tc) hne.2.1).alloc (.cells #[.int .u8 ((x.o : Nat) : Int), .int .u8 ((x.w : Nat) : Int), .int .i64 x.k0, .int .i64 x.k1, .int .i64 x.k2, .int .u64 ((x.n : Nat) : Int), .int .u8 ((x.l : Nat) : Int)] 62)).alloc (.cells #[.int .i64 ((x.n : Nat) : Int)] 3)))
        have hc1 := cell_one_new ((wr.setCell ⟨W.heap.size + 1 + 1, 0, none⟩ (.slice (some ⟨g, 0, none⟩) n0 tc)).alloc (.cells #[.int .u8 ((x.o : Nat) : Int), .int .u8 ((x.w : Nat) : Int), .int .i64 x.k0, .int .i64 x.k1, .int .i64 x.k2, .int .u64 ((x.n : Nat) : Int), .int .u8 ((x.l : Nat) : Int)] 62)) (.int .i64 ((x.n : Nat) : Int)) 3
        have hs1 : ((wr.setCell ⟨W.heap.size + 1 + 1, 0, none⟩ (.slice (some ⟨g, 0, none⟩) n0 tc)).alloc (.cells #[.int .u8 ((x.o : Nat) : Int), .int .u8 ((x.w : Nat) : Int), .int .i64 x.k0, .int .i64 x.k1, .int .i64 x.k2, .int .u64 ((x.n : Nat) : Int), .int .u8 ((x.l : Nat) : Int)] 62)).heap.size = wr.heap.size + 1 := by simp [World.setCell]
        rw [hs1] at hc1
        have HC1 := Lib.hid hc1
        have H1 := Lib.hid (show ∀ u ∈ [Value.int .i64 ((x.n : Nat) : Int)], u.oneCell' = true by intro u hu; simp at hu; subst hu; rfl)
        have HSZ : Hid (W.heap.size ≤ (((wr.setCell ⟨W.heap.size + 1 + 1, 0, none⟩ (.slice (some ⟨g, 0, none⟩) n0 tc)).alloc (.cells #[.int .u8 ((x.o : Nat) : Int), .int .u8 ((x.w : Nat) : Int), .int .i64 x.k0, .int .i64 x.k1, .int .i64 x.k2, .int .u64 ((x.n : Nat) : Int), .int .u8 ((x.l : Nat) : Int)] 62)).alloc (.cells #[.int .i64 ((x.n : Nat) : Int)] 3)).heap.size) := by show _ ≤ _; rw [size_alloc, size_alloc, hs0]; have := hbel.size; omega
        have HSW : Hid ((((wr.setCell ⟨W.heap.size + 1 + 1, 0, none⟩ (.slice (some ⟨g, 0, none⟩) n0 tc)).alloc (.cells #[.int .u8 ((x.o : Nat) : Int), .int .u8 ((x.w : Nat) : Int), .int .i64 x.k0, .int .i64 x.k1, .int .i64 x.k2, .int .u64 ((x.n : Nat) : Int), .int .u8 ((x.l : Nat) : Int)] 62)).alloc (.cells #[.int .i64 ((x.n : Nat) : Int)] 3)).heap.size = wr.heap.size + 1 + 1) := by show _ = _; rw [size_alloc, size_alloc, hs0]
        have HKC : Hid (∀ W : World, Calls Try.prog 26 #[.int .u8 ((x.o : Nat) : Int)] W fun e W' => e = .returned (.int .i64 0) ∧ W = W') := fun W => kids_is hc W
        have HK := Lib.hid hc
        subst hmeas
        have e2 : ((x.o : Nat) : Int) = 2 := by omega
        simp only [e2] at HMV HRW HC1 HSZ HSW HKC
        clear hs0 hs1 hc1 e2
        clear hD hbel hI hrow hne hap hx hn1 hn0 S DS HR hr hf SR hmk htc c0 c1 hTl G
        go_wp2_with fail
        go_region
        go_wp2_with (first | (at_builtin; go_loud (refine wpList_append_own_at _ rfl (.tmp 49) (.tmp 53) 42 rfl W.heap.size 3 i3 (.int .i64 0) 1 8 Try.underlying42 HINFO.out HY0.out HY1.out HY2.out rfl (by decide) u8 vs.length (todoRow vs) rfl HRW.out ⟨wr.heap.size + 1, 0, none⟩ 1 1 [.int .i64 ((x.n : Nat) : Int)] rfl rfl HC1.out H1.out (by unfold maxLen; omega) (by omega) HSZ.out ?_; intro v9 w2 hrow2 hgr _ hloc; have HM0 := Lib.hid (HMV.out _ _ _ ⟨hgr.os, hgr.tape, hgr.output, hgr.size, hgr.block⟩ hrow2 (by rw [← HSW.out]; exact hloc)); clear hrow2 hgr hloc; have bx0 := HM0.out.box; have lbx0 := bx0.lt; unfold At7 at bx0)))
        go_wp2_with (go_at_call 26; refine (HKC.out _).mono ?_; rintro e w' ⟨rfl, rfl⟩)
        refine wp_loop_rounds 1 ?_
        rw [rounds_succ]
        obtain ⟨gk', hlt, hrel'⟩ := HM0.out.rel HX.out (by have := HK.out; omega)
        have HLT := Lib.hid hlt
        have HREL := Lib.hid hrel'
        clear hlt hrel'
        go_wp2_with fail
        go_roundg gk'
        case measure => exact HLT.out
        case rel => exact HREL.out
      · have HM := Lib.hid (mid_start hD hI hrow hne hap hbel hx ho hn0)
        rw [hmeas] at HM
        have d2 : (((x.o : Nat) : Int) == 2) = false := by simp; omega
        have bx0 := HM.out.box
        have lbx0 := bx0.lt
        unfold At7 at bx0
        have HM0 := Lib.hid HM.out.drew
        have HKC : Hid (∀ W : World, Calls Try.prog 26 #[.int .u8 ((x.o : Nat) : Int)] W fun e W' => e = .returned (.int .i64 0) ∧ W = W') := fun W => kids_is hc W
        have HK := Lib.hid hc
        clear hD hbel hI hrow hne hap hx hn1 hn0 S DS HR hr hf SR hmk htc c0 c1 hTl hmeas G
        clear bx0 lbx0
        go_wp2_with fail
        go_region
        go_wp2_with (go_at_call 26; refine (HKC.out _).mono ?_; rintro e w' ⟨rfl, rfl⟩)
        refine wp_loop_rounds 1 ?_
        rw [rounds_succ]
        obtain ⟨gk', hlt, hrel'⟩ := HM0.out.rel HX.out (by have := HK.out; omega)
        have HLT := Lib.hid hlt
        have HREL := Lib.hid hrel'
        clear hlt hrel'
        go_wp2_with fail
        go_roundg gk'
        case measure => exact HLT.out
        case rel => exact HREL.out
    · have ho : ¬ x.o = 2 := by intro e; rw [e] at hc; simp [kc] at hc
      have HM := Lib.hid (mid_start hD hI hrow hne hap hbel hx ho hn0)
      rw [hmeas] at HM
      have d2 : (((x.o : Nat) : Int) == 2) = false := by simp; omega
      have bx0 := HM.out.box
      have lbx0 := bx0.lt
      unfold At7 at bx0
      have HM0 := Lib.hid HM.out.drew
      have HKC : Hid (∀ W : World, Calls Try.prog 26 #[.int .u8 ((x.o : Nat) : Int)] W fun e W' => e = .returned (.int .i64 1) ∧ W = W') := fun W => kids_is hc W
      have HK := Lib.hid hc
      clear hD hbel hI hrow hne hap hx hn1 hn0 S DS HR hr hf SR hmk htc c0 c1 hTl hmeas G
      clear bx0 lbx0
      go_wp2_with fail
      go_region
      go_wp2_with (go_at_call 26; refine (HKC.out _).mono ?_; rintro e w' ⟨rfl, rfl⟩)
      refine wp_loop_rounds 2 ?_
      rw [rounds_succ]
      go_wp2_with (go_at_call 25; refine (mid_call HG.out (by omega) HX.out HM0.out (by have := HK.out; omega) _ rfl).mono ?_; rintro e w10 ⟨rfl, hm1⟩; have HM1 := Lib.hid hm1; have bx1 := hm1.box; have lbx1 := bx1.lt; unfold At7 at bx1)
      rw [rounds_succ]
      obtain ⟨gk', hlt, hrel'⟩ := HM1.out.rel HX.out (by have := HK.out; omega)
      have HLT := Lib.hid hlt
      have HREL := Lib.hid hrel'
      clear hlt hrel'
      go_wp2_with fail
      go_roundg gk'
      case measure => exact HLT.out
      case rel => exact HREL.out
    · have ho : ¬ x.o = 2 := by intro e; rw [e] at hc; simp [kc] at hc
      have HM := Lib.hid (mid_start hD hI hrow hne hap hbel hx ho hn0)
      rw [hmeas] at HM
      have d2 : (((x.o : Nat) : Int) == 2) = false := by simp; omega
      have bx0 := HM.out.box
      have lbx0 := bx0.lt
      unfold At7 at bx0
      have HM0 := Lib.hid HM.out.drew
      have HKC : Hid (∀ W : World, Calls Try.prog 26 #[.int .u8 ((x.o : Nat) : Int)] W fun e W' => e = .returned (.int .i64 2) ∧ W = W') := fun W => kids_is hc W
      have HK := Lib.hid hc
      clear hD hbel hI hrow hne hap hx hn1 hn0 S DS HR hr hf SR hmk htc c0 c1 hTl hmeas G
      clear bx0 lbx0
      go_wp2_with fail
      go_region
      go_wp2_with (go_at_call 26; refine (HKC.out _).mono ?_; rintro e w' ⟨rfl, rfl⟩)
      refine wp_loop_rounds 3 ?_
      rw [rounds_succ]
      go_wp2_with (go_at_call 25; refine (mid_call HG.out (by omega) HX.out HM0.out (by have := HK.out; omega) _ rfl).mono ?_; rintro e w10 ⟨rfl, hm1⟩; have HM1 := Lib.hid hm1; have bx1 := hm1.box; have lbx1 := bx1.lt; unfold At7 at bx1)
      rw [rounds_succ]
      go_wp2_with (go_at_call 25; refine (mid_call HG.out (by omega) HX.out HM1.out (by have := HK.out; omega) _ rfl).mono ?_; rintro e w11 ⟨rfl, hm2⟩; have HM2 := Lib.hid hm2; have bx2 := hm2.box; have lbx2 := bx2.lt; unfold At7 at bx2)
      rw [rounds_succ]
      obtain ⟨gk', hlt, hrel'⟩ := HM2.out.rel HX.out (by have := HK.out; omega)
      have HLT := Lib.hid hlt
      have HREL := Lib.hid hrel'
      clear hlt hrel'
      go_wp2_with fail
      go_roundg gk'
      case measure => exact HLT.out
      case rel => exact HREL.out
    · have ho : ¬ x.o = 2 := by intro e; rw [e] at hc; simp [kc] at hc
      have HM := Lib.hid (mid_start hD hI hrow hne hap hbel hx ho hn0)
      rw [hmeas] at HM
      have d2 : (((x.o : Nat) : Int) == 2) = false := by simp; omega
      have bx0 := HM.out.box
      have lbx0 := bx0.lt
      unfold At7 at bx0
      have HM0 := Lib.hid HM.out.drew
      have HKC : Hid (∀ W : World, Calls Try.prog 26 #[.int .u8 ((x.o : Nat) : Int)] W fun e W' => e = .returned (.int .i64 3) ∧ W = W') := fun W => kids_is hc W
      have HK := Lib.hid hc
      clear hD hbel hI hrow hne hap hx hn1 hn0 S DS HR hr hf SR hmk htc c0 c1 hTl hmeas G
      clear bx0 lbx0
      go_wp2_with fail
      go_region
      go_wp2_with (go_at_call 26; refine (HKC.out _).mono ?_; rintro e w' ⟨rfl, rfl⟩)
      refine wp_loop_rounds 4 ?_
      rw [rounds_succ]
      go_wp2_with (go_at_call 25; refine (mid_call HG.out (by omega) HX.out HM0.out (by have := HK.out; omega) _ rfl).mono ?_; rintro e w10 ⟨rfl, hm1⟩; have HM1 := Lib.hid hm1; have bx1 := hm1.box; have lbx1 := bx1.lt; unfold At7 at bx1)
      rw [rounds_succ]
      go_wp2_with (go_at_call 25; refine (mid_call HG.out (by omega) HX.out HM1.out (by have := HK.out; omega) _ rfl).mono ?_; rintro e w11 ⟨rfl, hm2⟩; have HM2 := Lib.hid hm2; have bx2 := hm2.box; have lbx2 := bx2.lt; unfold At7 at bx2)
      rw [rounds_succ]
      go_wp2_with (go_at_call 25; refine (mid_call HG.out (by omega) HX.out HM2.out (by have := HK.out; omega) _ rfl).mono ?_; rintro e w12 ⟨rfl, hm3⟩; have HM3 := Lib.hid hm3; have bx3 := hm3.box; have lbx3 := bx3.lt; unfold At7 at bx3)
      rw [rounds_succ]
      obtain ⟨gk', hlt, hrel'⟩ := HM3.out.rel HX.out (by have := HK.out; omega)
      have HLT := Lib.hid hlt
      have HREL := Lib.hid hrel'
      clear hlt hrel'
      go_wp2_with fail
      go_roundg gk'
      case measure => exact HLT.out
      case rel => exact HREL.out
end Tm
end Go.Proofs.Ytjhghfndhpaapaa
