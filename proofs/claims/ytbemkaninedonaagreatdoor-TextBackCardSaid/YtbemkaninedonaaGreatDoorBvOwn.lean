/-
  Structs of two cells that the call itself made: written, and kept beside others.
-/
import Derived.Test.YtbemkaninedonaaGreatDoorPt10
import Derived.Deep.DeepCutAuto
namespace Go.Proofs.YtbemkaninedonaaGreatDoor
open Go.RowKit
namespace Bv

/-- Block p, of the call's own from B on, holds x and y, and may be written. -/
structure Own (B : Nat) (w : World) (p : Nat) (x y : Value) : Prop where
  at_ : At w p x y
  fz : Fz w p
  le : B ≤ p
section
variable {B : Nat} {w w' : World} {p q : Nat} {x y x' y' : Value}
theorem Own.lt (h : Own B w p x y) : p < w.heap.size := h.at_.lt
theorem Own.keep (h : Own B w p x y) (hb : Below w.heap.size w w') : Own B w' p x y := ⟨h.at_.keep hb, h.fz.keep h.lt hb, h.le⟩
theorem Own.drew (h : Own B w p x y) : Own B w.drew p x y := ⟨h.at_.drew, h.fz, h.le⟩
theorem Fz.alloc (h : Fz w p) (hl : p < w.heap.size) (o : Obj) : Fz (w.alloc o) p :=
  ⟨(World.frozen?_of_block (w := w) (Below.heap_alloc w o p hl)).trans h.1, (World.frozen?_of_block (w := w) (Below.heap_alloc w o p hl)).trans h.2⟩
theorem Own.alloc (h : Own B w p x y) (o : Obj) : Own B (w.alloc o) p x y := ⟨h.at_.alloc o, h.fz.alloc h.lt o, h.le⟩
theorem Own.new (w : World) (x y : Value) (t : TypeId) (hB : B ≤ w.heap.size) : Own B (w.alloc (.cells #[x, y] t)) w.heap.size x y :=
  ⟨At.new w x y t, by constructor <;> simp [go_sem], hB⟩
theorem Own.set (h : Own B w p x y) : Own B ((w.setCell ⟨p, 0, none⟩ x').setCell ⟨p, 1, none⟩ y') p x' y' := by
  obtain ⟨⟨h0, h1⟩, ⟨f0, f1⟩, hl⟩ := h
  refine ⟨⟨?_, ?_⟩, ⟨?_, ?_⟩, hl⟩ <;> simp [go_sem, h0, h1, f0, f1]
theorem At.far (h : At w q x y) (hne : q ≠ p) : At ((w.setCell ⟨p, 0, none⟩ x').setCell ⟨p, 1, none⟩ y') q x y := by
  obtain ⟨h0, h1⟩ := h
  constructor
  · rw [World.cell?_setCell_far _ _ _ _ (fun e => hne e.symm), World.cell?_setCell_far _ _ _ _ (fun e => hne e.symm), h0]
  · rw [World.cell?_setCell_far _ _ _ _ (fun e => hne e.symm), World.cell?_setCell_far _ _ _ _ (fun e => hne e.symm), h1]
theorem Fz.set (h : Fz w q) : Fz ((w.setCell ⟨p, 0, none⟩ x').setCell ⟨p, 1, none⟩ y') q := by
  obtain ⟨f0, f1⟩ := h
  constructor <;> simp [go_sem, f0, f1]
theorem Own.far (h : Own B w q x y) (hne : q ≠ p) : Own B ((w.setCell ⟨p, 0, none⟩ x').setCell ⟨p, 1, none⟩ y') q x y := ⟨h.at_.far hne, h.fz.set, h.le⟩
theorem bel_set {W : World} (h : Below W.heap.size W w) (hp : W.heap.size ≤ p) : Below W.heap.size W ((w.setCell ⟨p, 0, none⟩ x').setCell ⟨p, 1, none⟩ y') := (h.setCell hp _).setCell hp _
end
end Bv
end Go.Proofs.YtbemkaninedonaaGreatDoor
