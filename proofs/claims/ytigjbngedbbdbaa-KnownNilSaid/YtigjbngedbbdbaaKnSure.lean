/-
  What the walks of the masks of a node read.
-/
import Derived.Test.YtigjbngedbbdbaaPt10
import Derived.Test.YtigjbngedbbdbaaPt11
import Derived.Test.YtigjbngedbbdbaaPt09
import Derived.Deep.CutRange
import Derived.Deep.DeepCutAuto
import Derived.Deep.RegionHeld3
import Derived.Deep.RegionWith
import Derived.BigQuiet
namespace Go.Proofs.Ytigjbngedbbdbaa
open Go.RowKit Go.Maps Bv Tm
namespace Kn
set_option maxHeartbeats 2000000
set_option maxRecDepth 100000

/-- What the map in block b answers of three numbers. -/
def LookK (W : World) (b : Nat) (k0 k1 k2 : Int) (w0 z0 o0 w1 z1 o1 w2 z2 o2 : Nat) : Prop := b < W.heap.size ∧ ∀ w' : World, w'.heap[b]? = W.heap[b]? →
  (Instr.lookup 60 (.map (some b)) (.int .i64 k0) false).run Try.prog w' = .ok (.agg #[.int .u8 ((w0 : Nat) : Int), .int .u64 ((z0 : Nat) : Int), .int .u64 ((o0 : Nat) : Int)]) w' ∧
  (Instr.lookup 60 (.map (some b)) (.int .i64 k1) false).run Try.prog w' = .ok (.agg #[.int .u8 ((w1 : Nat) : Int), .int .u64 ((z1 : Nat) : Int), .int .u64 ((o1 : Nat) : Int)]) w' ∧
  (Instr.lookup 60 (.map (some b)) (.int .i64 k2) false).run Try.prog w' = .ok (.agg #[.int .u8 ((w2 : Nat) : Int), .int .u64 ((z2 : Nat) : Int), .int .u64 ((o2 : Nat) : Int)]) w'

/-- What the walks read. -/
structure SureS (W : World) (b : Nat) (x0 x1 x5 x6 : Value) (k0 k1 k2 : Int) (w0 z0 o0 w1 z1 o1 w2 z2 o2 : Nat) (w : World) : Prop where
  box : At7 w W.heap.size x0 x1 (.int .i64 k0) (.int .i64 k1) (.int .i64 k2) x5 x6
  look : LookK w b k0 k1 k2 w0 z0 o0 w1 z1 o1 w2 z2 o2
  bel : Below W.heap.size W w
  bl : b < W.heap.size
section
variable {W w : World} {b : Nat} {x0 x1 x5 x6 : Value} {k0 k1 k2 : Int} {w0 z0 o0 w1 z1 o1 w2 z2 o2 : Nat}
theorem LookK.same {w' : World} (h : LookK w b k0 k1 k2 w0 z0 o0 w1 z1 o1 w2 z2 o2) (e : w'.heap[b]? = w.heap[b]?) (hs : w.heap.size ≤ w'.heap.size) : LookK w' b k0 k1 k2 w0 z0 o0 w1 z1 o1 w2 z2 o2 :=
  ⟨Nat.lt_of_lt_of_le h.1 hs, fun v hv => h.2 v (hv.trans e)⟩
theorem SureS.alloc (h : SureS W b x0 x1 x5 x6 k0 k1 k2 w0 z0 o0 w1 z1 o1 w2 z2 o2 w) (o : Obj) : SureS W b x0 x1 x5 x6 k0 k1 k2 w0 z0 o0 w1 z1 o1 w2 z2 o2 (w.alloc o) :=
  ⟨h.box.alloc o, h.look.same (Below.heap_alloc _ _ _ h.look.1) (by simp), bel_alloc h.bel o, h.bl⟩
theorem SureS.drew (h : SureS W b x0 x1 x5 x6 k0 k1 k2 w0 z0 o0 w1 z1 o1 w2 z2 o2 w) : SureS W b x0 x1 x5 x6 k0 k1 k2 w0 z0 o0 w1 z1 o1 w2 z2 o2 w.drew :=
  ⟨h.box.drew, h.look.same rfl (Nat.le_refl _), h.bel.drew, h.bl⟩
theorem SureS.setCell (h : SureS W b x0 x1 x5 x6 k0 k1 k2 w0 z0 o0 w1 z1 o1 w2 z2 o2 w) (p : Addr) (u : Value) (hp : W.heap.size < p.block) : SureS W b x0 x1 x5 x6 k0 k1 k2 w0 z0 o0 w1 z1 o1 w2 z2 o2 (w.setCell p u) :=
  ⟨h.box.move (fun o => World.cell?_setCell_far _ _ _ _ (by simp; omega)), h.look.same (Below.heap_setCell _ _ _ _ (by have := h.bl; omega)) (by simp [World.setCell]), h.bel.setCell (Nat.le_of_lt hp) u, h.bl⟩
theorem SureS.facts (h : SureS W b x0 x1 x5 x6 k0 k1 k2 w0 z0 o0 w1 z1 o1 w2 z2 o2 w) : w.cell? ⟨W.heap.size, 0, none⟩ = some x0 ∧ w.cell? ⟨W.heap.size, 1, none⟩ = some x1 ∧ w.cell? ⟨W.heap.size, 2, none⟩ = some (.int .i64 k0) ∧ w.cell? ⟨W.heap.size, 3, none⟩ = some (.int .i64 k1) ∧ w.cell? ⟨W.heap.size, 4, none⟩ = some (.int .i64 k2) ∧ w.cell? ⟨W.heap.size, 5, none⟩ = some x5 ∧ w.cell? ⟨W.heap.size, 6, none⟩ = some x6 ∧
  (Instr.lookup 60 (.map (some b)) (.int .i64 k0) false).run Try.prog w = .ok (.agg #[.int .u8 ((w0 : Nat) : Int), .int .u64 ((z0 : Nat) : Int), .int .u64 ((o0 : Nat) : Int)]) w ∧
  (Instr.lookup 60 (.map (some b)) (.int .i64 k1) false).run Try.prog w = .ok (.agg #[.int .u8 ((w1 : Nat) : Int), .int .u64 ((z1 : Nat) : Int), .int .u64 ((o1 : Nat) : Int)]) w ∧
  (Instr.lookup 60 (.map (some b)) (.int .i64 k2) false).run Try.prog w = .ok (.agg #[.int .u8 ((w2 : Nat) : Int), .int .u64 ((z2 : Nat) : Int), .int .u64 ((o2 : Nat) : Int)]) w := by
  have A := h.box
  unfold At7 at A
  exact ⟨A.1, A.2.1, A.2.2.1, A.2.2.2.1, A.2.2.2.2.1, A.2.2.2.2.2.1, A.2.2.2.2.2.2, h.look.2 w rfl⟩
end

/-- Three cells, the whole of a variable of masks. -/
def At3 (w : World) (p : Nat) (x y z : Value) : Prop := p < w.heap.size ∧ w.cell? ⟨p, 0, none⟩ = some x ∧ w.cell? ⟨p, 1, none⟩ = some y ∧ w.cell? ⟨p, 2, none⟩ = some z

/-- What the call has of its own: the node, the answer. -/
structure SureR (W : World) (x0 x1 x2 x3 x4 x5 x6 : Value) (w : World) : Prop where
  box : At7 w W.heap.size x0 x1 x2 x3 x4 x5 x6
  r0 : w.cell? ⟨W.heap.size + 1, 0, none⟩ = some (.int .u8 0)
  r1 : w.cell? ⟨W.heap.size + 1, 1, none⟩ = some (.int .u64 0)
  r2 : w.cell? ⟨W.heap.size + 1, 2, none⟩ = some (.int .u64 0)
  fr : ∀ o, w.frozen? ⟨W.heap.size + 1, o, none⟩ = false
  l : W.heap.size + 1 < w.heap.size
  b : Below W.heap.size W w
theorem SureR.call {W w w' : World} {x0 x1 x2 x3 x4 x5 x6 : Value} (h : SureR W x0 x1 x2 x3 x4 x5 x6 w) (k : Below w.heap.size w w') : SureR W x0 x1 x2 x3 x4 x5 x6 w' := by
  have l := h.l
  exact ⟨h.box.keep k, (k.cell (p := ⟨W.heap.size + 1, 0, none⟩) l).trans h.r0, (k.cell (p := ⟨W.heap.size + 1, 1, none⟩) l).trans h.r1, (k.cell (p := ⟨W.heap.size + 1, 2, none⟩) l).trans h.r2,
    fun o => (k.frozen (p := ⟨W.heap.size + 1, o, none⟩) l).trans (h.fr o), Nat.lt_of_lt_of_le l k.size, bel_call h.b k⟩
theorem keep3 {w : World} {q o A : Nat} {v a b c : Value} {X : Obj} (hq : q < w.heap.size) (hne : A ≠ q) (h : w.cell? ⟨q, o, none⟩ = some v) : (((((w.setCell ⟨A, 0, none⟩ a).setCell ⟨A, 1, none⟩ b).setCell ⟨A, 2, none⟩ c).alloc X).drew).cell? ⟨q, o, none⟩ = some v := by
  show ((((w.setCell ⟨A, 0, none⟩ a).setCell ⟨A, 1, none⟩ b).setCell ⟨A, 2, none⟩ c).alloc X).cell? ⟨q, o, none⟩ = some v
  rw [World.cell?_alloc_lt _ _ _ (by simpa [World.setCell] using hq), World.cell?_setCell_far _ _ _ _ hne, World.cell?_setCell_far _ _ _ _ hne, World.cell?_setCell_far _ _ _ _ hne]
  exact h
/-- What the calls behind the look-up leave. -/
structure SureM (W : World) (g h : Nat) (x0 x1 x2 x3 x4 x5 x6 a0 a1 a2 c0 c1 c2 : Value) (w : World) : Prop where
  box : At7 w W.heap.size x0 x1 x2 x3 x4 x5 x6
  gx : At3 w g a0 a1 a2
  hx : At3 w h c0 c1 c2
theorem At3.call {w w' : World} {p : Nat} {x y z : Value} (h : At3 w p x y z) (k : Below w.heap.size w w') : At3 w' p x y z :=
  ⟨Nat.lt_of_lt_of_le h.1 k.size, (k.cell (p := ⟨p, 0, none⟩) h.1).trans h.2.1, (k.cell (p := ⟨p, 1, none⟩) h.1).trans h.2.2.1, (k.cell (p := ⟨p, 2, none⟩) h.1).trans h.2.2.2⟩
theorem At3.setCell {w : World} {p q o : Nat} {x y z u : Value} (h : At3 w p x y z) (hn : q ≠ p) : At3 (w.setCell ⟨q, o, none⟩ u) p x y z :=
  ⟨by simpa [World.setCell] using h.1, (World.cell?_setCell_far _ _ _ _ hn).trans h.2.1, (World.cell?_setCell_far _ _ _ _ hn).trans h.2.2.1, (World.cell?_setCell_far _ _ _ _ hn).trans h.2.2.2⟩
section
variable {W w w' : World} {g h : Nat} {x0 x1 x2 x3 x4 x5 x6 a0 a1 a2 c0 c1 c2 : Value}
theorem SureM.call (s : SureM W g h x0 x1 x2 x3 x4 x5 x6 a0 a1 a2 c0 c1 c2 w) (k : Below w.heap.size w w') : SureM W g h x0 x1 x2 x3 x4 x5 x6 a0 a1 a2 c0 c1 c2 w' := ⟨s.box.keep k, s.gx.call k, s.hx.call k⟩
theorem SureM.set3 (s : SureM W g h x0 x1 x2 x3 x4 x5 x6 a0 a1 a2 c0 c1 c2 w) (hg : W.heap.size + 1 < g) (hh : W.heap.size + 1 < h) {a b c : Value} : SureM W g h x0 x1 x2 x3 x4 x5 x6 a0 a1 a2 c0 c1 c2 (((w.setCell ⟨W.heap.size + 1, 0, none⟩ a).setCell ⟨W.heap.size + 1, 1, none⟩ b).setCell ⟨W.heap.size + 1, 2, none⟩ c) :=
  ⟨s.box.move (fun o => by rw [World.cell?_setCell_far _ _ _ _ (by simp), World.cell?_setCell_far _ _ _ _ (by simp), World.cell?_setCell_far _ _ _ _ (by simp)]), ((s.gx.setCell (by omega)).setCell (by omega)).setCell (by omega), ((s.hx.setCell (by omega)).setCell (by omega)).setCell (by omega)⟩
theorem SureM.facts (s : SureM W g h x0 x1 x2 x3 x4 x5 x6 a0 a1 a2 c0 c1 c2 w) : w.cell? ⟨W.heap.size, 0, none⟩ = some x0 ∧ w.cell? ⟨W.heap.size, 1, none⟩ = some x1 ∧ w.cell? ⟨g, 0, none⟩ = some a0 ∧ w.cell? ⟨g, 1, none⟩ = some a1 ∧ w.cell? ⟨g, 2, none⟩ = some a2 ∧ w.cell? ⟨h, 0, none⟩ = some c0 ∧ w.cell? ⟨h, 1, none⟩ = some c1 ∧ w.cell? ⟨h, 2, none⟩ = some c2 := by
  have A := s.box
  unfold At7 at A
  exact ⟨A.1, A.2.1, s.gx.2.1, s.gx.2.2.1, s.gx.2.2.2, s.hx.2.1, s.hx.2.2.1, s.hx.2.2.2⟩
end
/-- Behind the answer's three stores. -/
theorem SureR.done {W w w' : World} {x0 x1 x2 x3 x4 x5 x6 a b c : Value} (h : SureR W x0 x1 x2 x3 x4 x5 x6 w) (k : Below w.heap.size w w') : Below W.heap.size W (((w'.setCell ⟨W.heap.size + 1, 0, none⟩ a).setCell ⟨W.heap.size + 1, 1, none⟩ b).setCell ⟨W.heap.size + 1, 2, none⟩ c) :=
  (((bel_call h.b k).setCell (by simp) _).setCell (by simp) _).setCell (by simp) _
end Kn
end Go.Proofs.Ytigjbngedbbdbaa
