/-
  The document's own Node and Vars, as facts on one call.
-/
import Derived.Test.YtkfnekhjmnjloaaTmRvA
import Derived.Deep.LoopGhost
namespace Go.Proofs.Ytkfnekhjmnjloaa
open Go.RowKit Go.Maps Bv
namespace Tm
set_option maxHeartbeats 2000000
set_option maxRecDepth 100000

theorem rnode_yes {B p k : Nat} {rv : Value} {L : List Nd} {x : Nd} {W : World} (S : RefAt B W p rv L) (hx : L[k]? = some x) :
    Calls Try.prog 11 #[.pointer (some ⟨p, 0, none⟩), .int .i64 ((k : Nat) : Int)] W fun e W' => e = .returned (.tuple #[x.val, .int .i64 0]) ∧ Below W.heap.size W W' := by
  have hlt := (List.getElem?_eq_some_iff.1 hx).1
  obtain ⟨g, c, rfl, hc⟩ := row_nd_at S.row hx
  obtain ⟨f0, f1, f2, f3, f4, f5, f6⟩ := cells_near (fun j u hj => hc k x hx j u hj)
  have lg : g < W.heap.size := World.block_lt_of_cell? W _ f0
  have c0 := S.c0
  have lp := S.lt
  have hk1 : ((k : Nat) : Int) < ((L.length : Nat) : Int) := by omega
  have hk0 : (0 : Int) ≤ ((k : Nat) : Int) := by omega
  clear S hc hx
  go_enter Try.func11, Try.ntmps11
  go_wp2_with fail
  exact bodyPost_ret (v := .tuple #[x.val, .int .i64 0]) (by simp [results, Try.results11, go_sem, Nd.val]) rfl ⟨rfl, by repeat (first | exact Below.refl _ _ | (refine Below.setCell ?_ (by simp; try omega) _) | (refine bel_alloc ?_ _) | (refine Below.drew ?_))⟩

theorem rnode_no {B p : Nat} {k : Int} {rv : Value} {L : List Nd} {W : World} (S : RefAt B W p rv L) (hi : inB L k = false) :
    Calls Try.prog 11 #[.pointer (some ⟨p, 0, none⟩), .int .i64 k] W fun e W' => e = .returned (.tuple #[.agg #[.int .u8 0, .int .u8 0, .int .i64 0, .int .i64 0, .int .i64 0, .int .u64 0, .int .u8 0], .int .i64 2]) ∧ Below W.heap.size W W' := by
  obtain ⟨a, c, rfl⟩ := S.shape
  have c0 := S.c0
  have lp := S.lt
  have hi' : k < 0 ∨ (0 ≤ k ∧ ((L.length : Nat) : Int) ≤ k) := by simp [inB] at hi; omega
  clear S hi
  rcases hi' with h | ⟨h1, h2⟩
  · go_enter Try.func11, Try.ntmps11
    go_wp2_with fail
    exact bodyPost_ret (v := .tuple #[.agg #[.int .u8 0, .int .u8 0, .int .i64 0, .int .i64 0, .int .i64 0, .int .u64 0, .int .u8 0], .int .i64 2]) (by simp [results, Try.results11, go_sem]) rfl ⟨rfl, by repeat (first | exact Below.refl _ _ | (refine Below.setCell ?_ (by simp; try omega) _) | (refine bel_alloc ?_ _) | (refine Below.drew ?_))⟩
  · go_enter Try.func11, Try.ntmps11
    go_wp2_with fail
    exact bodyPost_ret (v := .tuple #[.agg #[.int .u8 0, .int .u8 0, .int .i64 0, .int .i64 0, .int .i64 0, .int .u64 0, .int .u8 0], .int .i64 2]) (by simp [results, Try.results11, go_sem]) rfl ⟨rfl, by repeat (first | exact Below.refl _ _ | (refine Below.setCell ?_ (by simp; try omega) _) | (refine bel_alloc ?_ _) | (refine Below.drew ?_))⟩

theorem rvars_no {B p : Nat} {k : Int} {rv : Value} {L : List Nd} {W : World} (S : RefAt B W p rv L) (hi : inB L k = false) :
    Calls Try.prog 13 #[.pointer (some ⟨p, 0, none⟩), .int .i64 k] W fun e W' => e = .returned (.tuple #[.slice none 0 0, .int .i64 2]) ∧ W = W' := by
  obtain ⟨a, c, rfl⟩ := S.shape
  have c0 := S.c0
  have lp := S.lt
  have hi' : k < 0 ∨ (0 ≤ k ∧ ((L.length : Nat) : Int) ≤ k) := by simp [inB] at hi; omega
  clear S hi
  rcases hi' with h | ⟨h1, h2⟩
  all_goals
    go_enter Try.func13, Try.ntmps13
    go_wp2_with fail
    exact bodyPost_ret (v := .tuple #[.slice none 0 0, .int .i64 2]) (by simp [results, Try.results13, go_sem]) rfl ⟨rfl, rfl⟩

theorem zero_bools : Try.zeroCells65 = Array.replicate 256 (.bool false) := by kernel_rfl
theorem rv_start (W : World) (k : Nat) : RvAt W k (mark (fun _ => false) k) (fun _ => false) ((W.alloc (.cells ((madeCells #[Value.bool false] (k + 1)).setIfInBounds k (Value.bool true)) 4)).alloc (.cells Try.zeroCells65 65)) := by
  have hz : ∀ j, j < 256 → Try.zeroCells65[j]? = some (.bool false) := fun j hj => by rw [zero_bools, Array.getElem?_replicate, if_pos hj]
  have hm : ∀ j, j < k + 1 → ((madeCells #[Value.bool false] (k + 1)).setIfInBounds k (Value.bool true))[j]? = some (.bool (mark (fun _ => false) k j)) := by
    intro j hj
    rw [Array.getElem?_setIfInBounds]
    unfold mark
    by_cases e : k = j
    · subst e
      rw [if_pos rfl, if_pos rfl, if_pos (by simp [size_madeCells])]
    · rw [if_neg e, if_neg (fun c => e c.symm)]
      exact made_bool k j hj
  generalize ((madeCells #[Value.bool false] (k + 1)).setIfInBounds k (Value.bool true)) = C at hm ⊢
  generalize Try.zeroCells65 = Z at hz ⊢
  have hh0 := (MapKept.heap_alloc W (.cells C 4)).1
  have hh1 := (MapKept.heap_alloc (W.alloc (.cells C 4)) (.cells Z 65)).1
  have hs : (W.alloc (.cells C 4)).heap.size = W.heap.size + 1 := size_alloc _ _
  have hs2 : ((W.alloc (.cells C 4)).alloc (.cells Z 65)).heap.size = W.heap.size + 1 + 1 := by rw [size_alloc, size_alloc]
  rw [hs] at hh1
  refine ⟨fun j hj => ?_, fun j => ?_, fun j hj => ?_, fun j => ?_, by rw [hs2]; omega, bel_alloc (bel_alloc (Below.refl _ _) _) _⟩
  · rw [World.cell?_alloc_lt _ _ _ (show W.heap.size < _ by rw [hs]; omega)]
    unfold World.cell?
    rw [hh0]
    exact hm j hj
  · rw [World.frozen?_alloc_old _ _ _ (show W.heap.size ≠ _ by rw [hs]; omega)]
    unfold World.frozen?
    rw [hh0]
    simp
  · unfold World.cell?
    rw [hh1]
    exact hz j hj
  · unfold World.frozen?
    rw [hh1]
    simp

theorem kc_op {o : Nat} (h : ¬ kc o = 0) : 1 ≤ o ∧ o ≤ 25 := by
  by_cases e : 1 ≤ o ∧ o ≤ 25
  · exact e
  · have : kc o = 0 := by unfold kc; rw [if_neg (by omega), if_neg (by omega), if_neg (by omega)]
    exact absurd this h
theorem rkids_is2 (W : World) : Calls Try.prog 20 #[.int .u8 2] W fun e W' => e = .returned (.int .i64 0) ∧ W = W' := by
  have h := rkids_any 2 W
  rw [show rk 2 = 0 by decide] at h
  exact h

/-- What has been put in the list when the variables below v have been looked at. -/
structure OutAt (W : World) (k : Nat) (bel isv : Nat → Bool) (v : Nat) (u : Value) (w : World) : Prop where
  row : w.ownsRow W.heap.size 3 1 u ((List.range v).filter isv).length (todoRow ((List.range v).filter isv))
  n0 : u.ownBlock ≠ some W.heap.size
  n1 : u.ownBlock ≠ some (W.heap.size + 1)
  r : RvAt W k bel isv w
theorem OutAt.skip {W : World} {k : Nat} {bel isv : Nat → Bool} {v : Nat} {u : Value} {w : World} (h : OutAt W k bel isv v u w) (hv : isv v = false) : OutAt W k bel isv (v + 1) u w := by
  have e : (List.range (v + 1)).filter isv = (List.range v).filter isv := by rw [List.range_succ, List.filter_append]; simp [hv]
  exact ⟨by rw [e]; exact h.row, h.n0, h.n1, h.r⟩
theorem OutAt.push {W : World} {k : Nat} {bel isv : Nat → Bool} {v : Nat} {u v' : Value} {w w' : World} {o : Obj} (h : OutAt W k bel isv v u w) (hv : isv v = true) (hr : w'.ownsRow W.heap.size 3 1 v' (((List.range v).filter isv).length + 1) (todoRow ((List.range v).filter isv) ++ [.int .i64 ((v : Nat) : Int)])) (hg : (w.alloc o).grownBy w' u.ownBlock) (hl : v'.ownBlock = u.ownBlock ∨ v'.ownBlock = some (w.alloc o).heap.size) : OutAt W k bel isv (v + 1) v' w' := by
  have e : (List.range (v + 1)).filter isv = (List.range v).filter isv ++ [v] := by rw [List.range_succ, List.filter_append]; simp [hv]
  have hl2 := h.r.l
  rw [size_alloc] at hl
  refine ⟨by rw [e]; simpa [todoRow] using hr, ?_, ?_, h.r.kept (((Kept.refl (fun i => u.ownBlock = some i) w).alloc o).grown hg (fun i e _ => e)) (fun i e => ?_)⟩
  · rcases hl with l | l
    · rw [l]; exact h.n0
    · rw [l]; intro c; simp at c; omega
  · rcases hl with l | l
    · rw [l]; exact h.n1
    · rw [l]; intro c; simp at c; omega
  · have := (h.row.lt i e).1
    by_cases e0 : i = W.heap.size
    · subst e0; exact absurd e h.n0
    · by_cases e1 : i = W.heap.size + 1
      · subst e1; exact absurd e h.n1
      · omega

theorem rvars_yes {B p k : Nat} {rv : Value} {L : List Nd} {W : World} (S : RefAt B W p rv L) (hk : k < L.length) :
    Calls Try.prog 13 #[.pointer (some ⟨p, 0, none⟩), .int .i64 ((k : Nat) : Int)] W fun e W' =>
      ∃ v, e = .returned (.tuple #[v, .int .i64 0]) ∧ W'.ownsRow W.heap.size 3 1 v (varsOf L k).length (todoRow (varsOf L k)) ∧ Below W.heap.size W W' := by
  have HS := Lib.hid S
  obtain ⟨a, c, rfl⟩ := S.shape
  have c0 := S.c0
  have lp := S.lt
  have hlen := S.good.len
  have hk1 : ((k : Nat) : Int) < ((L.length : Nat) : Int) := by omega
  have hk0 : (0 : Int) ≤ ((k : Nat) : Int) := by omega
  obtain ⟨i0, hinfo, hz0, hz1, hz2⟩ := info_parts info_bool
  obtain ⟨i3, hinfo3, hy0, hy1, hy2⟩ := info_parts info_int
  have hmk : ∀ W, (Instr.makeSlice 62 (.int .i64 (((k : Nat) : Int) + 1)) (.int .i64 (((k : Nat) : Int) + 1))).run Try.prog W = .ok (.slice (some ⟨W.heap.size, 0, none⟩) (k + 1) (k + 1)) (W.alloc (.cells (madeCells #[.bool false] (k + 1)) 4)) := by
    intro W
    have h := run_make W 62 4 i0 (.bool false) Try.underlying62 hinfo hz0 .i64 .i64 (((k : Nat) : Int) + 1) (((k : Nat) : Int) + 1) (by omega) (Int.le_refl _) (by rw [hz2]; omega) (by omega)
    have htn : (((k : Nat) : Int) + 1).toNat = k + 1 := by omega
    rw [hz1, htn, Nat.mul_one] at h
    exact h
  have hcl : (madeCells #[Value.bool false] (k + 1))[k]? = some (.bool false) := made_bool k k (Nat.lt_succ_self k)
  have H0 := Lib.hid (rv_start W k)
  have H3 := Lib.hid (And.intro hinfo3 (And.intro hy0 (And.intro hy1 hy2)))
  clear hinfo hz0 hz1 hz2 hinfo3 hy0 hy1 hy2 S
  go_enter Try.func13, Try.ntmps13
  go_wp2_with fail
  go_loopg [8] (k + 1) (fun gk u8 wr => ∃ gi : Int, u8 = .int .i64 gi ∧ gi + 1 = ((gk : Nat) : Int) ∧ ∃ bel isv, RInv L k bel isv gk ∧ gk ≤ k + 1 ∧ RvAt W k bel isv wr)
  case atStart => exact ⟨_, rfl, by omega, _, _, rinv_start, Nat.le_refl _, H0.out⟩
  case round =>
    obtain ⟨gi, rfl, hgi, bel, isv, hinv, hgk, hrv⟩ := hrel
    have HRV := Lib.hid hrv
    have HINV := Lib.hid hinv
    have hb := hrv.b
    clear H0 hmk hcl
    cases gk with
    | zero =>
      obtain rfl : gi = -1 := by omega
      have HV := Lib.hid hinv.vars
      clear hgi hinv hgk hb
      go_wp2_with fail
      go_loopg [11, 12] 256 (fun gk u11 u12 w3 => ∃ v : Nat, u12 = .int .i64 ((v : Nat) : Int) ∧ v + gk = 256 ∧ OutAt W k bel isv v u11 w3)
      case atStart => exact ⟨0, rfl, by omega, World.ownsRow_nil _ _ _ _, by simp [Value.ownBlock], by simp [Value.ownBlock], HRV.out⟩
      case round =>
        obtain ⟨v, rfl, hv, hout⟩ := hrel
        have HO := Lib.hid hout
        by_cases hlt : v < 256
        case neg =>
          obtain rfl : v = 256 := by omega
          have hr := hout.row
          rw [HV.out] at hr
          have HR := Lib.hid (And.intro hr hout.r.b)
          clear hv hlt hout hrv hr
          go_wp2_with fail
          refine bodyPost_ret (v := .tuple #[u11, .int .i64 0]) (by simp [results, Try.results13, go_sem]) rfl ?_
          exact ⟨u11, rfl, HR.out.1, HR.out.2⟩
        case pos =>
          have ci := hout.r.ci v hlt
          have lw3 := hout.r.l
          have q1 : ((v : Nat) : Int) < 256 := by omega
          have q0 : (0 : Int) ≤ ((v : Nat) : Int) := by omega
          have r1 : IntKind.i64.wrap (((v : Nat) : Int) + 1) = (((v + 1 : Nat) : Nat) : Int) := by rw [IntKind.wrap_i64]; omega
          have r2 : wrap64 (((v : Nat) : Int) + 1) = (((v + 1 : Nat) : Nat) : Int) := by unfold wrap64; rw [← IntKind.wrap_i64]; exact r1
          have HR2 := Lib.hid r2
          have HVV := Lib.hid (And.intro hv hlt)
          have hfl : ((List.range v).filter isv).length ≤ 256 := by
            have := List.length_filter_le isv (List.range v)
            simp at this
            omega
          have HFL := Lib.hid hfl
          have HRVL := Lib.hid hrv
          clear hfl r1 r2 hv hlt hrv
          cases hiv : isv v
          case false =>
            rw [hiv] at ci
            have HOO := Lib.hid (HO.out.skip hiv)
            clear hiv hout
            go_wp2_with fail
            go_roundg (gk - 1)
            case measure => have := HVV.out; omega
            case rel => exact ⟨v + 1, by first | rfl | (rw [HR2.out]) | (congr 1; exact HR2.out), by have := HVV.out; omega, HOO.out⟩
          case true =>
            rw [hiv] at ci
            have HIV := Lib.hid hiv
            have HROW := Lib.hid (hout.row.alloc (.cells #[.int .i64 ((v : Nat) : Int)] 3))
            clear hiv hout
            go_wp2_with (at_builtin; refine wpList_append_own_at _ rfl (.tmp 73) (.tmp 75) 39 rfl W.heap.size 3 i3 (.int .i64 0) 1 8 Try.underlying39 H3.out.1 H3.out.2.1 H3.out.2.2.1 H3.out.2.2.2 rfl (by decide) u11 ((List.range v).filter isv).length (todoRow ((List.range v).filter isv)) rfl HROW.out ⟨wr.heap.size, 0, none⟩ 1 1 [.int .i64 ((v : Nat) : Int)] rfl rfl (cell_one_new _ _ _) (by intro u hu; simp at hu; subst hu; rfl) (by have := HFL.out; unfold maxLen; omega) (by have := HFL.out; omega) (by rw [size_alloc]; omega) ?_; intro v4 w4 hrow4 hgr4 _ hloc4; have HS2 := Lib.hid (HO.out.push HIV.out hrow4 hgr4 hloc4); clear hrow4 hgr4 hloc4)
            go_roundg (gk - 1)
            case measure => have := HVV.out; omega
            case rel => exact ⟨v + 1, by first | rfl | (rw [HR2.out]) | (congr 1; exact HR2.out), by have := HVV.out; omega, HS2.out⟩
    | succ i =>
      obtain rfl : gi = ((i : Nat) : Int) := by omega
      have hil : i < L.length := by omega
      obtain ⟨x, hx⟩ : ∃ x, L[i]? = some x := ⟨_, List.getElem?_eq_getElem hil⟩
      have SR := HS.out.call hb
      obtain ⟨g, gc, hsg, hcg⟩ := row_nd_at SR.row hx
      simp only [Value.slice.injEq] at hsg
      obtain ⟨rfl, _, rfl⟩ := hsg
      obtain ⟨m0, m1, m2, m3, m4, m5, m6⟩ := cells_near (fun j u hj => hcg i x hx j u hj)
      have lg : g < wr.heap.size := World.block_lt_of_cell? wr _ m0
      have s0 := SR.c0
      have lpr := SR.lt
      have q0 : (0 : Int) ≤ ((i : Nat) : Int) := by omega
      have q1 : ((i : Nat) : Int) < ((L.length : Nat) : Int) := by omega
      have q2 : ((i : Nat) : Int) < ((k + 1 : Nat) : Int) := by omega
      have q3 : i < k + 1 := by omega
      have cb := hrv.cs i q3
      have lw : W.heap.size + 1 < wr.heap.size := hrv.l
      have r1 : IntKind.i64.wrap (((i : Nat) : Int) - 1) = ((i : Nat) : Int) - 1 := by rw [IntKind.wrap_i64]; omega
      have r2 : wrap64 (((i : Nat) : Int) - 1) = ((i : Nat) : Int) - 1 := by unfold wrap64; rw [← IntKind.wrap_i64]; exact r1
      have HR2 := Lib.hid r2
      have HX := Lib.hid hx
      have HG := Lib.hid SR.good
      clear r1 r2 hgi hinv hgk hcg hb SR hx hrv
      cases hbi : bel i
      case false =>
        rw [hbi] at cb
        have HBI := Lib.hid hbi
        clear hbi
        go_wp2_with fail
        go_roundg i
        case measure => omega
        case rel => exact ⟨_, by first | rfl | (rw [HR2.out]), by omega, bel, isv, HINV.out.skip HBI.out, by omega, HRV.out⟩
      case true =>
        rw [hbi] at cb
        have HMID := Lib.hid (HINV.out.mid hbi HX.out)
        clear hbi
        by_cases ho : x.o = 2
        case pos =>
          have hn := HG.out.var x (List.mem_of_getElem? HX.out) ho
          have ci := HRV.out.ci x.n hn
          have fi := HRV.out.fi x.n
          have hn1 : ((x.n : Nat) : Int) < 256 := by omega
          have hn0 : (0 : Int) ≤ ((x.n : Nat) : Int) := by omega
          have hmid0 := HMID.out.done HX.out (by rw [ho]; decide)
          have hrv1 := fun o : Obj => (HRV.out.markv hn).alloc o
          have e1 : isv' isv x = mark isv x.n := by unfold isv'; rw [if_pos ho]
          rw [e1] at hmid0
          have HMI := Lib.hid hmid0
          have HRV1 := Lib.hid hrv1
          clear HMID hmid0 hrv1 e1
          obtain ⟨o, w, k0, k1, k2, n, l⟩ := x
          simp only at ho m0 m1 m2 m3 m4 m5 m6 hn ci fi hn1 hn0
          subst ho
          obtain ⟨iv, hiv⟩ : ∃ iv, isv n = iv := ⟨_, rfl⟩
          rw [hiv] at ci
          have HN := Lib.hid hn
          clear hiv
          go_wp2_with fail
          refine wp_loop_rounds 1 ?_
          rw [rounds_succ]
          go_wp2_with (go_at_call 20; refine (rkids_is2 _).mono ?_; rintro e z ⟨rfl, rfl⟩)
          go_roundg i
          case measure => omega
          case rel => exact ⟨_, by first | rfl | (rw [HR2.out]), by omega, bel, _, HMI.out, by omega, HRV1.out _⟩
        case neg =>
          have d2 : (((x.o : Nat) : Int) == 2) = false := by simp; omega
          have e1 : isv' isv x = isv := by unfold isv'; rw [if_neg ho]
          rw [e1] at HMID
          have A0 := Lib.hid (At7.new wr (.int .u8 ((x.o : Nat) : Int)) (.int .u8 ((x.w : Nat) : Int)) (.int .i64 x.k0) (.int .i64 x.k1) (.int .i64 x.k2) (.int .u64 ((x.n : Nat) : Int)) (.int .u8 ((x.l : Nat) : Int)) 36)
          clear e1 ho
          go_wp2_with fail
          obtain ⟨wA, hwA⟩ : ∃ wA, wA = wr := ⟨_, rfl⟩
          subst hwA
          go_loopg [10] (kc x.o) (fun gk2 u10 w2 => ∃ j : Nat, u10 = .int .i64 ((j : Nat) : Int) ∧ j + gk2 = kc x.o ∧ ∃ bel', RMid L k bel' isv i x j ∧ RvAt W k bel' isv w2 ∧ At7 w2 wA.heap.size (.int .u8 ((x.o : Nat) : Int)) (.int .u8 ((x.w : Nat) : Int)) (.int .i64 x.k0) (.int .i64 x.k1) (.int .i64 x.k2) (.int .u64 ((x.n : Nat) : Int)) (.int .u8 ((x.l : Nat) : Int)))
          case atStart => exact ⟨0, rfl, by omega, bel, HMID.out, HRV.out.alloc _, A0.out⟩
          case round =>
            obtain ⟨j, rfl, hj, bel', hmid, hrv, hA⟩ := hrel
            have HA := Lib.hid hA
            have lb := hA.lt
            unfold At7 at hA
            by_cases hjr : ((j : Nat) : Int) < rk x.o
            case pos =>
              have hjk : j < kc x.o := by have := rk_le x.o; omega
              have hkk := kc_le x.o
              have hkj := HG.out.kid i x HX.out j hjk
              obtain ⟨kn, hkn⟩ : ∃ kn : Nat, x.kid j = ((kn : Nat) : Int) := ⟨(x.kid j).toNat, by omega⟩
              rw [hkn] at hkj
              have fk : wr.cell? ⟨wA.heap.size, 2 + j, none⟩ = some (.int .i64 ((kn : Nat) : Int)) := by
                rcases (by omega : j = 0 ∨ j = 1 ∨ j = 2) with e | e | e
                · subst e; rw [← hkn]; exact hA.2.2.1
                · subst e; rw [← hkn]; exact hA.2.2.2.1
                · subst e; rw [← hkn]; exact hA.2.2.2.2.1
              have hk3 : kn < k + 1 := by omega
              have cs := hrv.cs kn hk3
              have fs := hrv.fs kn
              obtain ⟨bv, hbv⟩ : ∃ bv, bel' kn = bv := ⟨_, rfl⟩
              rw [hbv] at cs
              have lw2 := hrv.l
              have hkid := hmid.kid HG.out HX.out hjk
              rw [hkn, show ((kn : Nat) : Int).toNat = kn by omega] at hkid
              have HKID := Lib.hid hkid
              have HRV2 := Lib.hid (hrv.mark hk3)
              have q4 : ((kn : Nat) : Int) < ((k + 1 : Nat) : Int) := by omega
              have q5 : ((kn : Nat) : Int) < ((k : Nat) : Int) + 1 := by omega
              have q6 : (0 : Int) ≤ ((kn : Nat) : Int) := by omega
              have p3 : ((j : Nat) : Int) < 3 := by omega
              have p0 : (0 : Int) ≤ ((j : Nat) : Int) := by omega
              have r1 : IntKind.i64.wrap (((j : Nat) : Int) + 1) = (((j + 1 : Nat) : Nat) : Int) := by rw [IntKind.wrap_i64]; omega
              have r2 : wrap64 (((j : Nat) : Int) + 1) = (((j + 1 : Nat) : Nat) : Int) := by unfold wrap64; rw [← IntKind.wrap_i64]; exact r1
              have HR3 := Lib.hid r2
              have HJ := Lib.hid (And.intro hj hjk)
              have HLW := Lib.hid lw2
              clear hj hjk hkk hkj hkn hbv hmid hrv hkid r1 r2
              go_wp2_with (go_at_call 20; refine (rkids_any _ _).mono ?_; rintro e z ⟨rfl, rfl⟩)
              go_roundg (gk - 1)
              case measure => have := HJ.out; omega
              case rel => exact ⟨j + 1, by first | rfl | (rw [HR3.out]) | (congr 1; exact HR3.out), by have := HJ.out; omega, _, HKID.out, HRV2.out, HA.out.move (fun off => World.cell?_setCell_far _ _ _ _ (by simp; omega))⟩
            case neg =>
              have hjr2 : rk x.o ≤ ((j : Nat) : Int) := by omega
              have hkj : kc x.o ≤ j := by
                by_cases e : kc x.o = 0
                · omega
                · have := rk_kc (o := x.o) (kc_op e)
                  omega
              have HMI := Lib.hid (hmid.done HX.out hkj)
              have HRV2 := Lib.hid hrv
              clear hjr hj hkj hmid hrv
              go_wp2_with (go_at_call 20; refine (rkids_any _ _).mono ?_; rintro e z ⟨rfl, rfl⟩)
              go_roundg i
              case measure => omega
              case rel => exact ⟨_, by first | rfl | (rw [HR2.out]), by omega, bel', _, HMI.out, by omega, HRV2.out⟩
end Tm
end Go.Proofs.Ytkfnekhjmnjloaa
