/-
  The numbers of the nodes asked for and of all below them, as a fact on one call.
-/
import Derived.Test.YtjhghfndhpaapaaEvClos
import Derived.Test.YtjhghfndhpaapaaEvGrow
import Derived.Test.YtjhghfndhpaapaaTmRowL
import Derived.Deep.LoopGhost
namespace Go.Proofs.Ytjhghfndhpaapaa
open Go.RowKit Go.Maps Bv
namespace Tm
set_option maxHeartbeats 2000000
set_option maxRecDepth 100000

theorem index3_0 (a b c : Int) (w : World) : (Instr.index 60 (.agg #[.int .i64 a, .int .i64 b, .int .i64 c]) (.int .i64 0)).run Try.prog w = .ok (.int .i64 a) w := by kernel_rfl
theorem index3_1 (a b c : Int) (w : World) : (Instr.index 60 (.agg #[.int .i64 a, .int .i64 b, .int .i64 c]) (.int .i64 1)).run Try.prog w = .ok (.int .i64 b) w := by kernel_rfl
theorem index3_2 (a b c : Int) (w : World) : (Instr.index 60 (.agg #[.int .i64 a, .int .i64 b, .int .i64 c]) (.int .i64 2)).run Try.prog w = .ok (.int .i64 c) w := by kernel_rfl

/-- Ahead of each of those asked for. -/
def PreE (W : World) (T : List Int) (j : Nat) (w : World) : Prop := ∃ Q tv, ReAt W.heap.size w (W.heap.size + 1) (W.heap.size + 1 + 1) W.heap.size Q tv ∧ Pre T Q j ∧ Below W.heap.size W w
/-- Ahead of each number of the list. -/
def GrowE (L : List Nd) (W : World) (T : List Int) (j gk : Nat) (w : World) : Prop := ∃ Q tv, ReAt W.heap.size w (W.heap.size + 1) (W.heap.size + 1 + 1) W.heap.size Q tv ∧ Grow L T Q j ∧ Below W.heap.size W w ∧ j + gk = T.length + L.length

theorem re_start (W : World) (T : List Int) : PreE W T 0 (((W.alloc (.map #[] 0)).alloc (.cells #[.map (some W.heap.size)] 87)).alloc (.cells #[.slice none 0 0] 42)) := by
  have hm : (((W.alloc (.map #[] 0)).alloc (.cells #[.map (some W.heap.size)] 87)).alloc (.cells #[.slice none 0 0] 42)).ownsMap Try.prog 3 (unitElem (H := Unit)) W.heap.size 0 (.map []) := ((World.ownsMap_made W _ _ _).alloc _).alloc _
  have b0 : Below W.heap.size W (((W.alloc (.map #[] 0)).alloc (.cells #[.map (some W.heap.size)] 87)).alloc (.cells #[.slice none 0 0] 42)) := bel_alloc (bel_alloc (bel_alloc (Below.refl _ _) _) _) _
  have s1 : (W.alloc (.map #[] 0)).heap.size = W.heap.size + 1 := size_alloc _ _
  have s2 : ((W.alloc (.map #[] 0)).alloc (.cells #[.map (some W.heap.size)] 87)).heap.size = W.heap.size + 1 + 1 := by rw [size_alloc, s1]
  have s3 : (((W.alloc (.map #[] 0)).alloc (.cells #[.map (some W.heap.size)] 87)).alloc (.cells #[.slice none 0 0] 42)).heap.size = W.heap.size + 1 + 1 + 1 := by rw [size_alloc, s2]
  have h4 : (((W.alloc (.map #[] 0)).alloc (.cells #[.map (some W.heap.size)] 87)).alloc (.cells #[.slice none 0 0] 42)).heap[W.heap.size + 1]? = some (.cells #[.map (some W.heap.size)] 87 (0, 0)) := by
    rw [Below.heap_alloc _ _ _ (by omega)]
    have := (MapKept.heap_alloc (W.alloc (.map #[] 0)) (.cells #[.map (some W.heap.size)] 87)).1
    rw [s1] at this
    exact this
  have h5 : (((W.alloc (.map #[] 0)).alloc (.cells #[.map (some W.heap.size)] 87)).alloc (.cells #[.slice none 0 0] 42)).heap[W.heap.size + 1 + 1]? = some (.cells #[.slice none 0 0] 42 (0, 0)) := by
    have := (MapKept.heap_alloc ((W.alloc (.map #[] 0)).alloc (.cells #[.map (some W.heap.size)] 87)) (.cells #[.slice none 0 0] 42)).1
    rw [s2] at this
    exact this
  generalize (((W.alloc (.map #[] 0)).alloc (.cells #[.map (some W.heap.size)] 87)).alloc (.cells #[.slice none 0 0] 42)) = w3 at hm b0 s3 h4 h5 ⊢
  refine ⟨[], .slice none 0 0, ⟨by omega, by omega, Nat.le_refl _, by omega, by omega, by omega, by omega, by omega, by omega, ?_, ?_, fun i => ?_, ⟨_, hm, setOf_nil⟩, World.ownsRow_nil _ _ _ _, by simp [Value.ownBlock], by simp [Value.ownBlock], by simp [Value.ownBlock]⟩, pre_start T, b0⟩
  · unfold World.cell?; rw [h4]; rfl
  · unfold World.cell?; rw [h5]; rfl
  · unfold World.frozen?; rw [h5]; simp

/-- One of those asked for is reached. -/
theorem pre_call {W w : World} {T : List Int} {j : Nat} {t : Int} {n : Nat} (h : PreE W T j w) (ht : T[j]? = some t) (h6 : I64 t) (hb : (T.length + n + 1) * 8 ≤ 140737488355328) :
    Calls Try.prog 39 #[.int .i64 t, .pointer (some ⟨W.heap.size + 1, 0, none⟩), .pointer (some ⟨W.heap.size + 1 + 1, 0, none⟩)] w fun e w' => e = .returned (.tuple #[]) ∧ PreE W T (j + 1) w' := by
  obtain ⟨Q, tv, hR, hP, hB⟩ := h
  refine (re_any hR hB.size h6 (by have := hP.len; omega)).mono ?_
  rintro e w' ⟨rfl, tv', hR', hK, _⟩
  exact ⟨rfl, _, tv', hR', hP.step ht h6, hB.trans (hK.below (fun i hi c => by
    rcases c with c | c | c
    · have := hR.g5; omega
    · have := hR.gm; omega
    · have := (hR.row.lt i c).1; omega) hB.size)⟩

/-- Between the calls of the closure in the round of the number k, the node x. -/
def GrowM (L : List Nd) (W : World) (T : List Int) (j k : Nat) (x : Nd) (m : Nat) (w : World) : Prop := ∃ Q tv, ReAt W.heap.size w (W.heap.size + 1) (W.heap.size + 1 + 1) W.heap.size Q tv ∧ Grow L T Q j ∧ Below W.heap.size W w ∧ Q[j]? = some ((k : Nat) : Int) ∧ (1 ≤ m → x.k0 ∈ Q) ∧ (2 ≤ m → x.k1 ∈ Q) ∧ (3 ≤ m → x.k2 ∈ Q)
theorem growm_call {L : List Nd} {W w : World} {T : List Int} {j k m : Nat} {x : Nd} (g : Gd L) (hx : L[k]? = some x) (hb : (T.length + L.length + 1) * 8 ≤ 140737488355328) (h : GrowM L W T j k x m w) (q : Int) (hm : m = 0 ∧ q = x.k0 ∨ m = 1 ∧ q = x.k1 ∨ m = 2 ∧ q = x.k2) :
    Calls Try.prog 39 #[.int .i64 q, .pointer (some ⟨W.heap.size + 1, 0, none⟩), .pointer (some ⟨W.heap.size + 1 + 1, 0, none⟩)] w fun e w' => e = .returned (.tuple #[]) ∧ GrowM L W T j k x (m + 1) w' := by
  obtain ⟨Q, tv, hR, hG, hB, hq, a0, a1, a2⟩ := h
  obtain ⟨k0, k1, k2⟩ := kid_in g hx
  have hin : I64 q ∧ inB L q = true := by
    rcases hm with ⟨_, e⟩ | ⟨_, e⟩ | ⟨_, e⟩ <;> rw [e]
    · exact k0
    · exact k1
    · exact k2
  have hl := (List.getElem?_eq_some_iff.1 hq).1
  refine (re_any hR hB.size hin.1 (by have := hG.len; omega)).mono ?_
  rintro e w' ⟨rfl, tv', hR', hK, _⟩
  refine ⟨rfl, _, tv', hR', hG.add hin.1 hin.2, hB.trans (hK.below (fun i hi c => by
    rcases c with c | c | c
    · have := hR.g5; omega
    · have := hR.gm; omega
    · have := (hR.row.lt i c).1; omega) hB.size), (addQ_get hl).trans hq, ?_, ?_, ?_⟩
  · intro h1
    rcases hm with ⟨_, e⟩ | ⟨_, e⟩ | ⟨_, e⟩
    · rw [e]; exact addQ_mem _ _
    · exact addQ_sub (a0 (by omega))
    · exact addQ_sub (a0 (by omega))
  · intro h1
    rcases hm with ⟨_, e⟩ | ⟨_, e⟩ | ⟨_, e⟩
    · omega
    · rw [e]; exact addQ_mem _ _
    · exact addQ_sub (a1 (by omega))
  · intro h1
    rcases hm with ⟨_, e⟩ | ⟨_, e⟩ | ⟨_, e⟩
    · omega
    · omega
    · rw [e]; exact addQ_mem _ _
theorem growm_end {L : List Nd} {W w : World} {T : List Int} {j k gk : Nat} {x : Nd} (hx : L[k]? = some x) (h : GrowM L W T j k x 3 w) (hg : j + gk = T.length + L.length) : GrowE L W T (j + 1) (gk - 1) w ∧ 0 < gk := by
  obtain ⟨Q, tv, hR, hG, hB, hq, a0, a1, a2⟩ := h
  have hl := (List.getElem?_eq_some_iff.1 hq).1
  have hk := (List.getElem?_eq_some_iff.1 hx).1
  have := hG.len
  exact ⟨⟨Q, tv, hR, hG.step hq (by unfold inB; simp; omega) (by simpa using hx) (a0 (by omega)) (a1 (by omega)) (a2 (by omega)), hB, by omega⟩, by omega⟩

theorem below_any {B p m : Nat} {sv : Value} {L : List Nd} {T : List Int} {W : World} {al : Option Addr} {ac : Nat} (S : StoreAt B W p m sv L) (HT : IntsAt W al T) (h6 : ∀ t ∈ T, I64 t) (hb : (T.length + L.length + 1) * 8 ≤ 140737488355328) :
    Calls Try.prog 21 #[.pointer (some ⟨p, 0, none⟩), .slice al T.length ac] W fun e W' => Below W.heap.size W W' ∧
      (((∀ t ∈ T, inB L t = true) ∧ ∃ v N, e = .returned (.tuple #[v, .int .i64 0]) ∧ W'.ownsRow W.heap.size 3 1 v N.length (todoRow N) ∧ Numbers L T N) ∨
       ((∃ t ∈ T, inB L t = false) ∧ e = .returned (.tuple #[.slice none 0 0, .int .i64 2]))) := by
  have hmm := @run_makeMap Try.prog
  have hmf : ∀ (fn : Fn) (first cap : Array Value) (w : World), (Instr.makeFunc fn first cap).run Try.prog w = .ok (.func fn first cap) w := fun _ _ _ _ => rfl
  go_enter Try.func21, Try.ntmps21
  have HB := Lib.hid hb
  have H6 := Lib.hid h6
  have HTT := Lib.hid HT
  have HS := Lib.hid S
  have HST := Lib.hid (re_start W T)
  clear hb h6 HT S
  go_wp2_with fail
  go_loopg [20] T.length (fun gk u20 wr => ∃ j : Nat, u20 = .int .i64 ((j : Nat) : Int) ∧ j + gk = T.length ∧ PreE W T j wr)
  case atStart => exact ⟨0, rfl, by omega, HST.out⟩
  case round =>
    obtain ⟨j, rfl, hg, hpre⟩ := hrel
    clear HST
    have HG := Lib.hid hg
    have HP := Lib.hid hpre
    by_cases hj : j < T.length
    case pos =>
      obtain ⟨t, ht⟩ : ∃ t, T[j]? = some t := ⟨_, List.getElem?_eq_getElem hj⟩
      have hbel : Below W.heap.size W wr := by obtain ⟨_, _, _, _, hB⟩ := hpre; exact hB
      rcases HTT.out.keep hbel with h0 | ⟨bl, ol, rfl, lbl, hc⟩
      · subst h0; simp at hj
      have hct := hc j t ht
      have q0 : (0 : Int) ≤ ((j : Nat) : Int) := by omega
      have q1 : ((j : Nat) : Int) < ((T.length : Nat) : Int) := by omega
      have r1 : IntKind.i64.wrap (((j : Nat) : Int) + 1) = (((j + 1 : Nat) : Nat) : Int) := by rw [IntKind.wrap_i64]; have := HB.out; omega
      have r2 : wrap64 (((j : Nat) : Int) + 1) = (((j + 1 : Nat) : Nat) : Int) := by unfold wrap64; rw [← IntKind.wrap_i64]; exact r1
      have HR2 := Lib.hid r2
      have HJ := Lib.hid hj
      have HC := Lib.hid (pre_call HP.out ht (H6.out t (List.mem_of_getElem? ht)) HB.out)
      clear r1 r2 hj ht hpre hg hbel hc
      go_wp2_with (go_at_call 39; refine HC.out.mono ?_; rintro e w1 ⟨rfl, hp1⟩; have HP1 := Lib.hid hp1; clear hp1)
      go_roundg (gk - 1)
      case measure => have := HG.out; have := HJ.out; omega
      case rel => exact ⟨j + 1, by first | rfl | (rw [HR2.out]) | (congr 1; exact HR2.out), by have := HG.out; have := HJ.out; omega, HP1.out⟩
    case neg =>
      have hje : j = T.length := by omega
      subst hje
      obtain ⟨Q, tv, hR, hP, hB⟩ := hpre
      have HGR := Lib.hid (hP.grow (L := L))
      have HRE := Lib.hid hR
      have HBE := Lib.hid hB
      clear hR hP hB HP HG hg hj
      go_wp2_with fail
      go_loopg [11] (T.length + L.length) (fun gk u11 wr => ∃ j : Nat, u11 = .int .i64 ((j : Nat) : Int) ∧ GrowE L W T j gk wr)
      case atStart => exact ⟨0, rfl, Q, tv, HRE.out, HGR.out, HBE.out, by omega⟩
      case round =>
        obtain ⟨j, rfl, Q, tv, hR, hgr, hB, hgk⟩ := hrel
        clear HRE HGR HBE
        have HGK := Lib.hid hgk
        obtain ⟨ta, tc, htv⟩ := hR.shape
        have c5 := hR.c5
        have hql := hgr.len
        have SR := HS.out.call hB
        have l5 := hR.l5
        have lpr := SR.lt
        have q00 : (0 : Int) ≤ ((j : Nat) : Int) := by omega
        by_cases hj : j < Q.length
        case neg =>
          have hje : j = Q.length := by have := hgr.le; omega
          subst hje
          obtain ⟨nd, hrow, hmem, hlen⟩ := hgr.plain
          have hNN := hgr.numbers SR.good
          have hrw := hR.row
          rw [hrow, show Q.length = (Q.map Int.toNat).length by simp] at hrw
          have HSRT := Lib.hid (sort_any hrw nd hNN.rise hmem (by have := SR.good.len; simp; omega))
          have HNN := Lib.hid hNN
          have HRR := Lib.hid hR
          have HBB := Lib.hid hB
          subst htv
          clear hR hgr hB hgk hNN hrw nd hrow hmem hlen SR hj hql
          go_wp2_with (go_at_call 27; refine HSRT.out.mono ?_; rintro e w2 ⟨rfl, hrow2, hK2⟩; have c52 := (hK2.cell (x := ⟨W.heap.size + 1 + 1, 0, none⟩) l5 (fun e => HRR.out.t5 e)).trans c5; have HK2 := Lib.hid hK2; have HROW2 := Lib.hid hrow2; clear hK2 hrow2)
          refine bodyPost_ret (v := .tuple #[.slice ta Q.length tc, .int .i64 0]) (by simp [results, Try.results21, go_sem]) rfl ?_
          refine ⟨HBB.out.trans (HK2.out.below (fun i hi c => by have := (HRR.out.row.lt i c).1; omega) HBB.out.size), .inl ⟨fun t ht => ?_, _, _, rfl, HROW2.out, HNN.out⟩⟩
          obtain ⟨a, b⟩ := HNN.out.top t ht
          have := HNN.out.lt _ b
          unfold inB
          simp
          omega
        case pos =>
          obtain ⟨q, hq⟩ : ∃ q, Q[j]? = some q := ⟨_, List.getElem?_eq_getElem hj⟩
          obtain ⟨g, c, hgv, lg, hcq⟩ := hR.at' hq
          rw [hgv] at htv
          simp only [Value.slice.injEq] at htv
          obtain ⟨rfl, _, rfl⟩ := htv
          subst hgv
          have q1 : ((j : Nat) : Int) < ((Q.length : Nat) : Int) := by omega
          have hq6 := hgr.src q (List.mem_of_getElem? hq)
          by_cases hin : inB L q = true
          case neg =>
            have hnt : ∃ t ∈ T, inB L t = false := by
              rcases hq6.2 with c | c
              · exact ⟨q, c, by simpa using hin⟩
              · exact absurd c hin
            have HNT := Lib.hid hnt
            have HNO := Lib.hid (node_no SR (k := q) (by simpa using hin))
            have HBB := Lib.hid hB
            clear hR hgr hB hgk SR hj hql hin hq6 hnt
            go_wp2_with (go_at_call 20; refine HNO.out.mono ?_; rintro e w2 ⟨rfl, hb2⟩)
            refine bodyPost_ret (v := .tuple #[.slice none 0 0, .int .i64 2]) (by simp [results, Try.results21, go_sem]) rfl ?_
            exact ⟨bel_call HBB.out (bel_alloc hb2 _), .inr ⟨HNT.out, rfl⟩⟩
          case pos =>
            obtain ⟨k, rfl⟩ : ∃ k : Nat, q = ((k : Nat) : Int) := ⟨q.toNat, by unfold inB at hin; simp at hin; omega⟩
            obtain ⟨x, hx⟩ : ∃ x, L[k]? = some x := ⟨_, List.getElem?_eq_getElem (by unfold inB at hin; simp at hin; omega)⟩
            have HYES := Lib.hid (node_yes SR hx)
            unfold Nd.val at HYES
            have HX := Lib.hid hx
            have HRR := Lib.hid hR
            have HGR := Lib.hid hgr
            have HBB := Lib.hid hB
            have HGD := Lib.hid SR.good
            have HMID := Lib.hid (fun w' (hb : Below wr.heap.size wr w') => (⟨Q, _, hR.call hb, hgr, bel_call hB hb, hq, fun h => by omega, fun h => by omega, fun h => by omega⟩ : GrowM L W T j k x 0 w'))
            have r1 : IntKind.i64.wrap (((j : Nat) : Int) + 1) = (((j + 1 : Nat) : Nat) : Int) := by rw [IntKind.wrap_i64]; have := HB.out; omega
            have r2 : wrap64 (((j : Nat) : Int) + 1) = (((j + 1 : Nat) : Nat) : Int) := by unfold wrap64; rw [← IntKind.wrap_i64]; exact r1
            have HR2 := Lib.hid r2
            clear r1 r2
            clear hR hgr hB hgk SR hj hql hin hq6 hx hq HRR HGR
            go_wp2_with (go_at_call 20; refine HYES.out.mono ?_; rintro e w2 ⟨rfl, hb2⟩)
            have HM0 := Lib.hid (HMID.out _ (bel_alloc hb2 (.cells #[.int .u8 ((x.o : Nat) : Int), .int .u8 ((x.w : Nat) : Int), .int .i64 x.k0, .int .i64 x.k1, .int .i64 x.k2, .int .u64 ((x.n : Nat) : Int), .int .u8 ((x.l : Nat) : Int)] 62)))
            clear hb2 HMID HYES c5 hcq l5 lpr lg
            have ix0 := index3_0 x.k0 x.k1 x.k2
            have ix1 := index3_1 x.k0 x.k1 x.k2
            have ix2 := index3_2 x.k0 x.k1 x.k2
            refine wp_loop_rounds 4 ?_
            rw [rounds_succ]
            go_wp2_with (go_at_call 39; refine (growm_call HGD.out HX.out HB.out HM0.out _ (.inl ⟨rfl, rfl⟩)).mono ?_; rintro e w3 ⟨rfl, hm1⟩; have HM1 := Lib.hid hm1; clear hm1)
            rw [rounds_succ]
            go_wp2_with (go_at_call 39; refine (growm_call HGD.out HX.out HB.out HM1.out _ (.inr (.inl ⟨rfl, rfl⟩))).mono ?_; rintro e w4 ⟨rfl, hm2⟩; have HM2 := Lib.hid hm2; clear hm2)
            rw [rounds_succ]
            go_wp2_with (go_at_call 39; refine (growm_call HGD.out HX.out HB.out HM2.out _ (.inr (.inr ⟨rfl, rfl⟩))).mono ?_; rintro e w5 ⟨rfl, hm3⟩; have HM3 := Lib.hid hm3; clear hm3)
            rw [rounds_succ]
            go_wp2_with fail
            go_roundg (gk - 1)
            case measure => have := (growm_end HX.out HM3.out HGK.out).2; omega
            case rel => exact ⟨j + 1, by first | rfl | (rw [HR2.out]) | (congr 1; exact HR2.out), (growm_end HX.out HM3.out HGK.out).1⟩
end Tm
end Go.Proofs.Ytjhghfndhpaapaa
