/-
  The checker's watch.
-/
import Derived.Test.YtmgkgbhkaoflhaaA6
import Derived.Deep.RegionLaw
import Derived.Maps.AppendAt
namespace Go.Proofs.Ytmgkgbhkaoflhaa
open Go.RowKit
namespace Rw
open Cf Rp
set_option maxHeartbeats 3200000
set_option maxRecDepth 100000

theorem info_ptr : (Try.prog.info? 74).map (fun i => (i.zero, i.size, i.bytes)) = some (some (.pointer none), 1, 8) := by kernel_rfl
theorem KAt.head_far {B v : Nat} {w w2 : World} {k : Nat} {L : Lay} {s : PS} {D : Int → Bool} {gap : Option Nat} (h : KAt B v w k L s D gap) {x : Option Nat} (hg : w.grownBy w2 x) (hx : ∀ g, x = some g → L.tag g ≠ .wat) : (∀ p, p < 2 * v + 1 → w2.cell? ⟨L.wb, p, none⟩ = some (L.wv p)) ∧ ∀ j, w2.frozen? ⟨L.wb, j, none⟩ = false := by
  have e := hg.block L.wb (h.low L.wb (by rw [h.tw]; nofun)).2 (fun c => hx L.wb c.symm h.tw)
  exact ⟨fun p hp => (World.cell?_of_block (a := ⟨L.wb, p, none⟩) e).trans (h.head.1 p hp), fun j => (World.frozen?_of_block (a := ⟨L.wb, j, none⟩) e).trans (h.head.2 j)⟩
theorem watch_any {B v : Nat} {W : World} {k : Nat} {L : Lay} {s : PS} {D : Int → Bool} {gap : Option Nat} (h : KAt B v W k L s D gap) (hv : v ≤ 1000000) (hB : B ≤ W.heap.size) {l : Int} (hl : isL l v = true) (c : Nat) (hg : gap ≠ some (pl v l)) (hn : (s.W (pl v l)).length ≤ 1000000) :
    Calls Try.prog 45 #[.pointer (some ⟨k, 0, none⟩), .int .i64 l, .pointer (some ⟨c, 0, none⟩)] W fun e w => e = .returned (.tuple #[]) ∧ ∃ L', KAt B v w k L' { s with W := up s.W (pl v l) (s.W (pl v l) ++ [c]) } D gap ∧ Kept L W w L' ∧ L'.lv = L.lv := by
  have HP := Lib.hid (place_any h hv hl)
  have hp := pl_lt hl
  have c1 : W.cell? ⟨k, 1, none⟩ = some (.slice (some ⟨L.wb, 0, none⟩) (2 * v + 1) (2 * v + 1)) := h.cells.1 1
  obtain ⟨p, hpv⟩ : ∃ p, p = pl v l := ⟨_, rfl⟩
  rw [← hpv] at HP hp hg hn ⊢
  have HR := h.ws p hp hg
  obtain ⟨ca, cc, hcv⟩ := row_shape HR
  have cw : W.cell? ⟨L.wb, p, none⟩ = some (.slice ca (s.W p).length cc) := by rw [h.head.1 p hp, hcv]
  rw [hcv] at HR
  have p0 : (0 : Int) ≤ ((p : Nat) : Int) := by omega
  have p1 : ((p : Nat) : Int) < 2 * ((v : Nat) : Int) + 1 := by omega
  have HK := Lib.hid h
  have HCV := Lib.hid hcv
  have HPV := Lib.hid hpv
  have H1 : Hid (KAt B v (W.drew.alloc (.cells #[ptr c] 74)) k L s D gap ∧ Kept L W (W.drew.alloc (.cells #[ptr c] 74)) L ∧ B ≤ (W.drew.alloc (.cells #[ptr c] 74)).heap.size) := Lib.hid ⟨(h.drewN 1).alloc _, ((Kept.refl L W).drewN 1).alloc _, by simp; omega⟩
  have HROW1 : Hid ((W.drew.alloc (.cells #[ptr c] 74)).ownsRow B 74 1 (.slice ca (s.W p).length cc) (s.W p).length (rowC (s.W p))) := Lib.hid (hcv ▸ H1.out.1.ws p hp hg)
  have HPP := Lib.hid hp
  have hwb := (h.low L.wb (by rw [h.tw]; nofun)).2
  have hkb := (h.low k (by rw [h.tk]; nofun)).2
  obtain ⟨i0, hinfo, hz0, hz1, hz2⟩ := infos info_ptr
  clear h HR hcv hpv hp 
  go_enter Try.func45, Try.ntmps45
  go_wp2_with fail
  refine HP.out.mono ?_
  rintro e w ⟨rfl, rfl⟩
  go_upto_region 1 with fail
  go_region_law (refine step_append_at rfl (.tmp 21) (.tmp 23) 86 86 rfl B 74 i0 (.pointer none) 1 8 rfl Try.underlying86 hinfo hz0 hz1 hz2 rfl (by decide) (.slice ca (s.W p).length cc) (s.W p).length (rowC (s.W p)) (by simp [Act.eval]) HROW1.out ⟨w.heap.size, 0, none⟩ 1 1 [ptr c] (by simp [Act.eval]) rfl (cell_one_new w.drew (ptr c) 74) (by intro u hu; simp at hu; subst hu; rfl) (by unfold maxLen; omega) (by omega) H1.out.2.2 ?_; intro v' w2 hrow hgr hloc; obtain ⟨g', c', rfl⟩ := row_slice hrow; have C1 : w2.cell? ⟨k, 1, none⟩ = some (.slice (some ⟨L.wb, 0, none⟩) (2 * v + 1) (2 * v + 1)) := (H1.out.1.k_far hgr (fun g e => by rw [H1.out.1.tl p HPP.out hg g (by rw [HCV.out]; exact e)]; nofun)).1 1; have C7 := (H1.out.1.head_far hgr (fun g e => by rw [H1.out.1.tl p HPP.out hg g (by rw [HCV.out]; exact e)]; nofun)).1 p HPP.out; have F7 := (H1.out.1.head_far hgr (fun g e => by rw [H1.out.1.tl p HPP.out hg g (by rw [HCV.out]; exact e)]; nofun)).2 p)
  all_goals go_wp2_with fail
  all_goals go_end0
  all_goals
    have e1 : (Value.slice ca (s.W p).length cc).ownBlock = (L.wv p).ownBlock := by rw [HCV.out]
    rw [e1] at hgr hloc
    have hr : w2.ownsRow B 74 1 (.slice (some ⟨g', 0, none⟩) ((s.W p).length + 1) c') (s.W p ++ [c]).length (rowC (s.W p ++ [c])) := by
      rw [List.length_append]
      simpa [rowC] using hrow
    have hlo2 : (Value.slice (some ⟨g', 0, none⟩) ((s.W p).length + 1) c').ownBlock = (L.wv p).ownBlock ∨ ∃ g2, (w.drew.alloc (.cells #[ptr c] 74)).heap.size ≤ g2 ∧ (Value.slice (some ⟨g', 0, none⟩) ((s.W p).length + 1) c').ownBlock = some g2 := hloc.imp (fun e => e) fun e => ⟨_, Nat.le_refl _, e⟩
    have hKA := H1.out.1.setW (l := s.W p ++ [c]) HPP.out hg hr hgr hlo2
    exact ⟨rfl, _, hKA, (H1.out.2.1.tagged (L2 := { L with wv := up L.wv p (.slice (some ⟨g', 0, none⟩) ((s.W p).length + 1) c'), tag := tagOf L.tag (Value.slice (some ⟨g', 0, none⟩) ((s.W p).length + 1) c').ownBlock (.lst p) }) hgr (fun b e => by rw [H1.out.1.tl p HPP.out hg b e]; nofun) (hlo2.imp (fun e => e) .inr) rfl).put (by rw [hKA.tw]; nofun) _ _, rfl⟩
end Rw
end Go.Proofs.Ytmgkgbhkaoflhaa
