/-
  The one clause of a blaster that is made, as a fact on one call.
-/
import Derived.Test.YthelkbdiedfmfaaGreatBlMem
namespace Go.Proofs.YthelkbdiedfmfaaGreat
open Go.RowKit Go.Maps Bv Tm
namespace Bl
set_option maxHeartbeats 1000000
set_option maxRecDepth 100000
theorem info_i32 : (Tryz.prog.info? 21).map (fun i => (i.zero, i.size, i.bytes)) = some (some (.int .i32 0), 1, 4) := by kernel_rfl

theorem cell_at (w : World) (x : Value) (t : TypeId) : ∀ (j : Nat) (u : Value), [x][j]? = some u → (w.alloc (.cells #[x] t)).cell? ((⟨w.heap.size, 0, none⟩ : Addr).add j) = some u := by
  intro j u hj
  match j, hj with
  | 0, hj =>
    simp at hj; subst hj
    exact cell_one_new w x t 0 x rfl

theorem clause_one {B : Nat} {w : World} {b s mb n kb : Nat} {T : Tab} (h : BlAt B w b s mb (.slice none 0 0) (.slice none 0 0) [] [] n T) (hB : B ≤ w.heap.size) (hk : w.cell? ⟨kb, 0, none⟩ = some (.int .i64 1)) (_hkb : kb < w.heap.size) (_hkn : kb ≠ b) :
    Calls Tryz.prog 11 #[.pointer (some ⟨b, 0, none⟩), .slice (some ⟨kb, 0, none⟩) 1 1] w fun e w' => e = .returned (.tuple #[]) ∧ (∃ lv ev, BlAt B w' b s mb lv ev [1] [1] n T) ∧ Below B w w' := by
  obtain ⟨i0, hinfo, hz0, hz1, hz2⟩ := info_parts info_i
  obtain ⟨i2, hinfo2, hy0, hy1, hy2⟩ := info_parts info_i32
  have HH := Lib.hid h
  have HBB := Lib.hid hB
  have lb := h.lb
  have hbB := h.gb
  have c6 := h.c6
  have c7 := h.c7
  have f0 := h.fr 261
  have f1 := h.fr 262
  have HN := Lib.hid (cell_at w (.int .i32 1) 21)
  have H1 := Lib.hid (show ∀ u ∈ [Value.int .i32 1], u.oneCell' = true by intro u hu; simp at hu; subst hu; rfl)
  have HR := Lib.hid ((h.call (bel_alloc (Below.refl _ _) (.cells #[.int .i32 1] 21))).lrow)
  have HB1 : Hid (B ≤ (w.alloc (.cells #[.int .i32 1] 21)).heap.size) := by show _ ≤ _; rw [size_alloc]; omega
  clear h hB
  go_enter Tryz.func11, Tryz.ntmps11
  go_wp2_with fail
  refine wp_loop_rounds 2 ?_
  rw [rounds_succ]
  go_wp2_with (at_builtin; refine wpList_append_own_at _ rfl (.tmp 25) (.tmp 28) 33 rfl B 21 i2 (.int .i32 0) 1 4 Tryz.underlying33 hinfo2 hy0 hy1 hy2 rfl (by decide) (.slice none 0 0) 0 [] rfl HR.out ⟨w.heap.size, 0, none⟩ 1 1 [.int .i32 1] rfl rfl HN.out H1.out (by unfold maxLen; omega) (by omega) HB1.out ?_; intro v' w2 hrow hgr _ hloc; obtain ⟨g', c', rfl, hBg, hg'⟩ := row_slice hrow; have D2 := Lib.hid (HH.out.lit hgr hrow hloc); have C6 := (D2.out.c6); have C5 : w2.cell? ⟨b, 261, none⟩ = some (.slice none 0 0) := ?cc; have F5 : w2.frozen? ⟨b, 261, none⟩ = false := ?ff; have HG2 := Lib.hid hgr; clear hrow hgr hloc)
  case cc => exact hgr.cell (by rw [World.cell?_alloc_lt _ _ _ (by omega)]; exact c6) (fun e => by cases e)
  case ff => exact (World.frozen?_of_block (hgr.block b (by rw [size_alloc]; omega) (fun e => by cases e))).trans (by rw [World.frozen?_alloc_old _ _ _ (show b ≠ _ by omega)]; exact f0)
  have E6 : (w2.setCell ⟨b, 261, none⟩ (.slice (some ⟨g', 0, none⟩) 1 c')).cell? ⟨b, 261, none⟩ = some (.slice (some ⟨g', 0, none⟩) 1 c') := D2.out.c6
  have E7 : (w2.setCell ⟨b, 261, none⟩ (.slice (some ⟨g', 0, none⟩) 1 c')).cell? ⟨b, 262, none⟩ = some (.slice none 0 0) := D2.out.c7
  have G7 : (w2.setCell ⟨b, 261, none⟩ (.slice (some ⟨g', 0, none⟩) 1 c')).frozen? ⟨b, 262, none⟩ = false := D2.out.fr 262
  have Z2 : w2.heap.size = (w2.setCell ⟨b, 261, none⟩ (.slice (some ⟨g', 0, none⟩) 1 c')).heap.size := by simp [World.setCell]
  have L2 : b < (w2.setCell ⟨b, 261, none⟩ (.slice (some ⟨g', 0, none⟩) 1 c')).heap.size := D2.out.lb
  have D3 : Hid (BlAt B (w2.setCell ⟨b, 261, none⟩ (.slice (some ⟨g', 0, none⟩) 1 c')) b s mb (.slice (some ⟨g', 0, none⟩) 1 c') (.slice none 0 0) [1] [] n T) := D2
  have HZ2 := Lib.hid HG2.out.size
  clear C5 F5 C6 c6 c7 f0 f1 D2
  have KB : Hid (Below B w (w2.setCell ⟨b, 261, none⟩ (.slice (some ⟨g', 0, none⟩) 1 c'))) := Lib.hid ((((Below.refl B w).alloc HBB.out _).grown HG2.out (by rw [size_alloc]; have := HBB.out; omega) (fun i e => by cases e)).setCell (show B ≤ b from hbB) _)
  clear HG2
  obtain ⟨V, hV⟩ : ∃ V, V = w2.setCell ⟨b, 261, none⟩ (.slice (some ⟨g', 0, none⟩) 1 c') := ⟨_, rfl⟩
  rw [← hV] at E6 E7 G7 L2 D3 KB Z2
  have HV := Lib.hid hV
  rw [← hV]
  clear hV Z2 HZ2
  have HN2 := Lib.hid (cell_at V.drew (.int .i64 1) 3)
  have H12 := Lib.hid (show ∀ u ∈ [Value.int .i64 1], u.oneCell' = true by intro u hu; simp at hu; subst hu; rfl)
  have D4 := Lib.hid (D3.out.kept ((Kept.refl (fun _ => False) V).drew) (fun x => x) (fun x => x) (fun _ _ x => x) (fun _ _ x => x))
  have D5a := Lib.hid (D4.out.call (bel_alloc (Below.refl _ _) (.cells #[.int .i64 1] 3)))
  have HB2 : Hid (B ≤ (V.drew.alloc (.cells #[.int .i64 1] 3)).heap.size) := by show _ ≤ _; rw [size_alloc]; have := D4.out.gb; have := D4.out.lb; omega
  have HRN : Hid ((V.drew.alloc (.cells #[.int .i64 1] 3)).ownsRow B 3 1 (.slice none 0 0) 0 []) := Lib.hid (World.ownsRow_nil _ _ _ _)
  rw [rounds_succ]
  go_wp2_with fail
  go_region_law (refine step_append_at rfl (.tmp 37) (.tmp 43) 31 rfl B 3 i0 (.int .i64 0) 1 8 Tryz.underlying31 hinfo hz0 hz1 hz2 rfl (by decide) (.slice none 0 0) 0 [] (by simp [Act.eval]) HRN.out ⟨V.heap.size, 0, none⟩ 1 1 [.int .i64 1] (by simp [Act.eval]) rfl HN2.out H12.out (by unfold maxLen; omega) (by omega) HB2.out ?_; intro v' w3 hrow hgr hloc; obtain ⟨g2, c2, rfl, hBg2, hg2⟩ := row_slice hrow; have D5 := Lib.hid (D4.out.fin hgr hrow hloc); have C5 : w3.cell? ⟨b, 262, none⟩ = some (.slice none 0 0) := (hgr.cell D5a.out.c7 (fun e => by cases e)); have F5 : w3.frozen? ⟨b, 262, none⟩ = false := ((World.frozen?_of_block (hgr.block b D5a.out.lb (fun e => by cases e))).trans (D5a.out.fr 262)); have HG3 := Lib.hid hgr; clear hrow hgr hloc)
  all_goals go_wp2_with fail
  all_goals go_end0
  all_goals exact ⟨rfl, ⟨_, _, D5.out⟩, ((((KB.out).drew).alloc (by have := D4.out.gb; have := D4.out.lb; show B ≤ _; omega) _).grown HG3.out (by rw [size_alloc]; have := D4.out.gb; have := D4.out.lb; omega) (fun i e => by cases e)).setCell (show B ≤ b from hbB) _⟩
end Bl
end Go.Proofs.YthelkbdiedfmfaaGreat
