/-
  The closure of layer eval that reaches a number, as a fact on one call.
-/
import Derived.Test.YtjhghfndhpaapaaEvSet
namespace Go.Proofs.Ytjhghfndhpaapaa
open Go.RowKit Go.Maps Bv
namespace Tm
set_option maxHeartbeats 1000000
set_option maxRecDepth 100000

/-- What a call of the closure has done. -/
def ReDone (base b4 b5 bm : Nat) (Q : List Int) (tv : Value) (k : Int) (W W' : World) : Prop :=
  ∃ tv', ReAt base W' b4 b5 bm (addQ Q k) tv' ∧ Kept (refoot b5 bm tv) W W' ∧ (tv'.ownBlock = tv.ownBlock ∨ ∃ g, W.heap.size ≤ g ∧ tv'.ownBlock = some g)

theorem re_any {base : Nat} {b4 b5 bm : Nat} {k : Int} {Q : List Int} {tv : Value} {W : World} (h : ReAt base W b4 b5 bm Q tv) (hB : base ≤ W.heap.size) (hk : I64 k) (hQ : (Q.length + 1) * 8 ≤ 140737488355328) :
    Calls Try.prog 39 #[.int .i64 k, .pointer (some ⟨b4, 0, none⟩), .pointer (some ⟨b5, 0, none⟩)] W fun e W' => e = .returned (.tuple #[]) ∧ ReDone base b4 b5 bm Q tv k W W' := by
  have c40 := h.c4
  obtain ⟨D0, hD0, hs0⟩ := h.tab
  have hlk0 := look_set hD0 hs0 hk
  have lm0 := h.l4
  have h := h.call (bel_alloc (Below.refl W.heap.size W) (.cells #[] 88))
  obtain ⟨V, hV⟩ : ∃ V, V = W.alloc (.cells #[] 88) := ⟨_, rfl⟩
  have sV : V.heap.size = W.heap.size + 1 := by rw [hV, size_alloc]
  have KV : Kept (refoot b5 bm tv) W V := by rw [hV]; exact (Kept.refl _ _).alloc _
  rw [← hV] at h
  have c4 := h.c4
  have c5 := h.c5
  have f5 := h.f5 0
  have l5 := h.l5
  have l4 := h.l4
  obtain ⟨D, hD, hs⟩ := h.tab
  have hlk := look_set hD hs hk
  by_cases hq : k ∈ Q
  case pos =>
    rw [decide_eq_true hq] at hlk hlk0
    clear hD0 hs0
    have HD := Lib.hid h
    have HKV := Lib.hid KV
    clear h hD hs KV sV
    subst hV
    go_enter Try.func39, Try.ntmps39
    go_wp2_with fail
    go_end0
    refine ⟨rfl, tv, ?_, HKV.out, .inl rfl⟩
    unfold addQ
    rw [if_pos hq]
    exact HD.out
  case neg =>
    rw [decide_eq_false hq] at hlk hlk0
    clear hD0 hs0
    obtain ⟨i0, hinfo, hz0, hz1, hz2⟩ := info_parts info_int
    obtain ⟨w1, hrun, ho1, ht1⟩ := hD.store law_int Try.underlying87 (by unfold maxLen; omega) (key_int hk) (unitElem_mk (H := Unit))
    have hg1 := ht1.grown
    have K1 := kept_grown hg1 (F := fun i => i = bm) (fun i e => by simpa using e.symm)
    have c5' : w1.cell? ⟨b5, 0, none⟩ = some tv := (K1.cell (x := ⟨b5, 0, none⟩) l5 h.n5m).trans c5
    have HROW : (w1.alloc (.cells #[.int .i64 k] 3)).ownsRow base 3 1 tv Q.length (intRow Q) := (row_kept h.row K1 (fun g e c => h.tm (by rw [e, c]))).alloc _
    have HR := Lib.hid HROW
    have HN := Lib.hid (cell_one_new w1 (.int .i64 k) 3)
    have H1 := Lib.hid (show ∀ u ∈ [Value.int .i64 k], u.oneCell' = true by intro u hu; simp at hu; subst hu; rfl)
    have HD := Lib.hid h
    have z1 := hg1.size
    have HB1 : Hid (base ≤ (w1.alloc (.cells #[.int .i64 k] 3)).heap.size) := by show _ ≤ _; rw [size_alloc]; omega
    have HG1 := Lib.hid hg1
    have HO1 := Lib.hid (And.intro ho1 (hs.add hk))
    have l51 : b5 < w1.heap.size := by omega
    have fz1 : w1.frozen? ⟨b5, 0, none⟩ = false := (K1.frozen (x := ⟨b5, 0, none⟩) l5 h.n5m).trans f5
    have HKV := Lib.hid KV
    have HSV := Lib.hid sV
    clear h hD hs HROW ho1 ht1 hg1 K1 KV sV
    subst hV
    have HNQ := Lib.hid hq
    clear hq
    go_enter Try.func39, Try.ntmps39
    go_wp2_with (at_builtin; refine wpList_append_own_at _ rfl (.tmp 17) (.tmp 19) 42 rfl base 3 i0 (.int .i64 0) 1 8 Try.underlying42 hinfo hz0 hz1 hz2 rfl (by decide) tv Q.length (intRow Q) rfl HR.out ⟨w1.heap.size, 0, none⟩ 1 1 [.int .i64 k] rfl rfl HN.out H1.out (by unfold maxLen; omega) (by omega) HB1.out ?_; intro v' w2 hrow hgr _ hloc; obtain ⟨g', c', rfl, hBg, hg'⟩ := row_slice hrow; have D2 := HD.out.added HG1.out HO1.out.1 HO1.out.2 hgr hrow hloc; have C5 : w2.cell? ⟨b5, 0, none⟩ = some tv := ?cc; have F5 : w2.frozen? ⟨b5, 0, none⟩ = false := ?ff)
    case cc => exact hgr.cell (by rw [World.cell?_alloc_lt _ _ _ (by omega)]; exact c5') (fun e => HD.out.t5 e.symm)
    case ff => exact (World.frozen?_of_block (hgr.block b5 (by rw [size_alloc]; omega) (fun e => HD.out.t5 e.symm))).trans (by rw [World.frozen?_alloc_old _ _ _ (show b5 ≠ _ by omega)]; exact fz1)
    all_goals go_end0
    all_goals
      refine ⟨rfl, _, ?_, HKV.out.trans D2.2.1, D2.2.2.imp id (fun ⟨g, hg, e⟩ => ⟨g, by have := HSV.out; omega, e⟩)⟩
      unfold addQ
      rw [if_neg HNQ.out]
      exact D2.1
end Tm
end Go.Proofs.Ytjhghfndhpaapaa
