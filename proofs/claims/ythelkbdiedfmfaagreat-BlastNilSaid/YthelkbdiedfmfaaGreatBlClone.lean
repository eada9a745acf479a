/-
  A slice of one number, cloned, and compared with another one.
-/
import Derived.Test.YthelkbdiedfmfaaGreatBlLeaf
import Derived.Deep.QuietTactic
import Derived.BigQuiet
import Derived.WalkSpells
namespace Go.Proofs.YthelkbdiedfmfaaGreat
open Go.RowKit Go.Maps Bv
namespace Bl
set_option maxHeartbeats 1000000
set_option maxRecDepth 100000
theorem info_i : (Tryz.prog.info? 3).map (fun i => (i.zero, i.size, i.bytes)) = some (some (.int .i64 0), 1, 8) := by kernel_rfl

theorem ints_one (g1 c1 g2 c2 : Nat) (k : Int) (W : World) (h1 : W.cell? ⟨g1, 0, none⟩ = some (.int .i64 k)) (h2 : W.cell? ⟨g2, 0, none⟩ = some (.int .i64 k)) :
    Calls Tryz.prog 18 #[.slice (some ⟨g1, 0, none⟩) 1 c1, .slice (some ⟨g2, 0, none⟩) 1 c2] W fun e W' => e = .returned (.bool true) ∧ Below W.heap.size W W' := by
  go_enter Tryz.func18, Tryz.ntmps18
  go_wp2_with fail
  refine wp_loop_rounds 2 ?_
  rw [rounds_succ]
  go_wp2_with fail
  go_quiet (fail)
  go_wp2_with fail
  rw [rounds_succ]
  go_wp2_with fail
  go_ret
  exact ⟨rfl, bel_drewN (Below.refl _ _) _⟩

theorem row_none (B g : Nat) (w : World) (h : w.heap[g]? = some (.cells #[] 3 (0, 0))) (hB : B ≤ g) : w.ownsRow B 3 1 (.slice (some ⟨g, 0, none⟩) 0 0) 0 [] :=
  ⟨rfl, .inr ⟨g, 0, #[], rfl, hB, h, Nat.le_refl _, by unfold maxLen; omega, rfl, rfl⟩⟩

theorem build_none (w : World) : (Instr.buildSlice 31 0 #[]).run Tryz.prog w = .ok (.slice (some ⟨w.heap.size, 0, none⟩) 0 0) (w.alloc (.cells #[] 3)) := by kernel_rfl

theorem clone_one (g c : Nat) (k : Int) (W : World) (hl : g < W.heap.size) (h : W.cell? ⟨g, 0, none⟩ = some (.int .i64 k)) :
    Calls Tryz.prog 15 #[.slice (some ⟨g, 0, none⟩) 1 c] W fun e W' => (∃ v, e = .returned v ∧ OneAt W.heap.size W' v k) ∧ Below W.heap.size W W' := by
  have hb0 := build_none
  have hen : ∀ (w : World) (b : Nat), (binOp .eql 31 (.slice (some ⟨b, 0, none⟩) 1 c) (.slice none 0 0)).run Tryz.prog w = .ok (.bool false) w := fun w b => Lib.run_eql_slice_nil w _ _ _ _ _ _ _ Tryz.underlying31
  obtain ⟨i0, hinfo, hz0, hz1, hz2⟩ := info_parts info_i
  have HC := Lib.hid (fun (j : Nat) (u : Value) (hj : [Value.int .i64 k][j]? = some u) => (show (W.alloc (.cells #[] 3)).cell? ((⟨g, 0, none⟩ : Addr).add j) = some u by
    match j, hj with
    | 0, hj => simp at hj; subst hj; rw [World.cell?_alloc_lt _ _ _ (show g < _ by exact hl)]; simpa [Addr.add] using h))
  have H1 := Lib.hid (show ∀ u ∈ [Value.int .i64 k], u.oneCell' = true by intro u hu; simp at hu; subst hu; rfl)
  have HR := Lib.hid (row_none W.heap.size W.heap.size (W.alloc (.cells #[] 3)) (MapKept.heap_alloc W (.cells #[] 3)).1 (Nat.le_refl _))
  clear h hl
  go_enter Tryz.func15, Tryz.ntmps15
  go_wp2_with (at_builtin; refine wpList_append_own_at _ rfl (.tmp 5) (.tmp 6) 31 rfl W.heap.size 3 i0 (.int .i64 0) 1 8 Tryz.underlying31 hinfo hz0 hz1 hz2 rfl (by decide) (.slice (some ⟨W.heap.size, 0, none⟩) 0 0) 0 [] rfl HR.out ⟨g, 0, none⟩ 1 c [.int .i64 k] rfl rfl HC.out H1.out (by unfold maxLen; omega) (by omega) (by simp) ?_; intro v' w2 hrow hgr _ hloc; obtain ⟨g', c', rfl, hBg, hg'⟩ := Tm.row_slice hrow; have HRW := Lib.hid hrow; have HGR := Lib.hid hgr; clear hrow hgr hloc)
  go_ret
  refine ⟨⟨_, rfl, g', c', rfl, hBg, hg', ?_⟩, ?_⟩
  · have := HRW.out.cells (g := g') rfl 0 (.int .i64 k) rfl
    simpa [Addr.add] using this
  · exact (bel_alloc (Below.refl _ _) _).grown HGR.out (by simp) (fun i e => by simp [Value.ownBlock] at e; omega)
end Bl
end Go.Proofs.YthelkbdiedfmfaaGreat
