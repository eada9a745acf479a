/-
  The literals of a constant of one bit, as a fact on one call of layer blast's node.
-/
import Derived.Test.YthelkbdiedfmfaaGreatBlMem
namespace Go.Proofs.YthelkbdiedfmfaaGreat
open Go.RowKit Go.Maps Bv Tm
namespace Bl
set_option maxHeartbeats 2000000
set_option maxRecDepth 100000

/-- What node answers of a constant: one literal, in new memory. -/
def LitOne (k : Int) (W : World) (e : Ending) (W' : World) : Prop :=
  ∃ g, e = .returned (.slice (some ⟨g, 0, none⟩) 1 1) ∧ W.heap.size ≤ g ∧ g < W'.heap.size ∧ W'.cell? ⟨g, 0, none⟩ = some (.int .i64 k) ∧ Below W.heap.size W W'

theorem bnode_const {B b s mb n : Nat} {lv ev : Value} {ls es : List Int} {T : Tab} {W : World} {c : Nat} {k : Int} (h : BlAt B W b s mb lv ev ls es n T)
    (hc : ∀ w : World, Calls Tryz.prog 24 #[.int .i64 1, .int .u64 ((c : Nat) : Int)] w fun e w' => e = .returned (.slice (some ⟨w.heap.size, 0, none⟩) 1 1) ∧ w' = w.alloc (.cells #[.int .i64 k] 3)) :
    Calls Tryz.prog 14 #[.pointer (some ⟨b, 0, none⟩), .agg #[.int .u8 1, .int .u8 1, .int .i64 0, .int .i64 0, .int .i64 0, .int .u64 ((c : Nat) : Int), .int .u8 0]] W (LitOne k W) := by
  obtain ⟨V, hV⟩ : ∃ V, V = W.alloc (.cells #[.int .u8 1, .int .u8 1, .int .i64 0, .int .i64 0, .int .i64 0, .int .u64 ((c : Nat) : Int), .int .u8 0] 56) := ⟨_, rfl⟩
  have bV : Below W.heap.size W V := by rw [hV]; exact bel_alloc (Below.refl _ _) _
  have hv := h.call bV
  have A := At7.new W (.int .u8 1) (.int .u8 1) (.int .i64 0) (.int .i64 0) (.int .i64 0) (.int .u64 ((c : Nat) : Int)) (.int .u8 0) 56
  rw [← hV] at A
  have c1 := hv.c1
  obtain ⟨D, hD, hs⟩ := hv.tab
  obtain ⟨x0, hx0⟩ : ∃ x0, x0 = slOf (T 0) := ⟨_, rfl⟩
  have hlk : ∀ q : Nat, (Instr.lookup 29 (.map (some mb)) (.int .i64 0) false).run Tryz.prog (V.drewN q) = .ok x0 (V.drewN q) := fun q => by
    rw [hx0]
    have d2 : (V.drewN q).ownsMap Tryz.prog 3 slElem mb n D := hD
    exact look_sl d2 hs (q := 0) (by unfold I64; omega)
  have hlk0 := hlk 1
  have HC := Lib.hid hc
  have HV := Lib.hid hV
  have HBV := Lib.hid bV
  clear h hv hD hs hx0 hc bV hV
  unfold At7 at A
  obtain ⟨a0, a1, a2, a3, a4, a5, a6⟩ := A
  go_enter Tryz.func14, Tryz.ntmps14
  go_wp2_with fail
  rw [← HV.out]
  go_quiet (fail)
  have HQ : Hid (Below W.heap.size W (V.drewN nq)) := Lib.hid (bel_drewN HBV.out nq)
  have hw1 : IntKind.i64.wrap 1 = 1 := rfl
  go_wp2_with (go_at_call 24; refine (HC.out _).mono ?_; rintro e w1 ⟨rfl, rfl⟩)
  go_ret
  exact ⟨_, rfl, by have := HQ.out.size; simpa using this, by simp, cell_one_new (V.drewN nq) (.int .i64 k) 3 0 _ rfl, bel_alloc HQ.out _⟩
end Bl
end Go.Proofs.YthelkbdiedfmfaaGreat
