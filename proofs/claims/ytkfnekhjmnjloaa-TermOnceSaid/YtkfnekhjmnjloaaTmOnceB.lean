/-
  What is there behind each node that the statements' loops hand to Make; the argument, a list of nodes; the document's own number of kids.
-/
import Derived.Test.YtkfnekhjmnjloaaTmOnceA
namespace Go.Proofs.Ytkfnekhjmnjloaa
open Go.RowKit Go.Maps Bv
namespace Tm
set_option maxHeartbeats 400000
set_option maxRecDepth 100000

/-- The argument: a list of nodes, in memory that was there before the call. -/
def ArgAt (W : World) (al : Option Addr) (X : List Nd) : Prop :=
  X = [] ∨ ∃ bl ol, al = some ⟨bl, ol, none⟩ ∧ bl < W.heap.size ∧ ∀ (i : Nat) (x : Nd), X[i]? = some x → ∀ j u, x.cells.toList[j]? = some u → W.cell? ⟨bl, ol + i * 7 + j, none⟩ = some u
theorem ArgAt.at' {W : World} {al : Option Addr} {X : List Nd} (h : ArgAt W al X) {i : Nat} {x : Nd} (hx : X[i]? = some x) :
    ∃ bl ol, al = some ⟨bl, ol, none⟩ ∧ bl < W.heap.size ∧ (∀ w, Below W.heap.size W w → ∀ j u, x.cells.toList[j]? = some u → w.cell? ⟨bl, ol + i * 7 + j, none⟩ = some u) := by
  rcases h with h | ⟨bl, ol, h1, h2, h3⟩
  · subst h; simp at hx
  · exact ⟨bl, ol, h1, h2, fun w hb j u hj => (hb.cell (p := ⟨bl, ol + i * 7 + j, none⟩) h2).trans (h3 i x hx j u hj)⟩

theorem st_make {W : World} {p m : Nat} {u4 u5 : Value} {L : List Nd} {ids : List Nat} {N : List Nd} {w : World} {x : Nd} (h : StE W p m u4 u5 L ids N w) (hx : x.Ok) (a er : Nat) (ha : (mk L x).2.1 = a) (he : (mk L x).2.2 = er) :
    Calls Try.prog 8 #[.pointer (some ⟨p, 0, none⟩), x.val] w fun e w' => e = .returned (.tuple #[.int .i64 ((a : Nat) : Int), .int .i64 ((er : Nat) : Int)]) ∧ StE W p m u4 u5 (mk L x).1 ids N w' := by
  obtain ⟨sv, s⟩ := h
  subst ha; subst he
  refine (make_any s.s s.b.size hx).mono ?_
  rintro e w' ⟨rfl, v, S', K, loc⟩
  exact ⟨rfl, v, s.make S' K loc⟩

theorem StE.b {W : World} {p m : Nat} {u4 u5 : Value} {L : List Nd} {ids : List Nat} {N : List Nd} {w : World} (h : StE W p m u4 u5 L ids N w) : Below W.heap.size W w := by obtain ⟨sv, s⟩ := h; exact s.b
theorem StE.r4 {W : World} {p m : Nat} {u4 u5 : Value} {L : List Nd} {ids : List Nat} {N : List Nd} {w : World} (h : StE W p m u4 u5 L ids N w) : w.ownsRow W.heap.size 3 1 u4 ids.length (todoRow ids) := by obtain ⟨sv, s⟩ := h; exact s.r4
theorem StE.r5 {W : World} {p m : Nat} {u4 u5 : Value} {L : List Nd} {ids : List Nat} {N : List Nd} {w : World} (h : StE W p m u4 u5 L ids N w) : w.ownsRow W.heap.size 36 7 u5 N.length (rowOf N) := by obtain ⟨sv, s⟩ := h; exact s.r5
theorem StE.good {W : World} {p m : Nat} {u4 u5 : Value} {L : List Nd} {ids : List Nat} {N : List Nd} {w : World} (h : StE W p m u4 u5 L ids N w) : Gd L := by obtain ⟨sv, s⟩ := h; exact s.s.good
theorem StE.call {W : World} {p m : Nat} {u4 u5 : Value} {L : List Nd} {ids : List Nat} {N : List Nd} {w w' : World} (h : StE W p m u4 u5 L ids N w) (k : Below w.heap.size w w') : StE W p m u4 u5 L ids N w' := by obtain ⟨sv, s⟩ := h; exact ⟨sv, s.call k⟩
theorem StE.push4 {W : World} {p m : Nat} {u4 u5 v : Value} {L : List Nd} {ids : List Nat} {N : List Nd} {w w' : World} {a : Nat} {o : Obj} (h : StE W p m u4 u5 L ids N w) (hr : w'.ownsRow W.heap.size 3 1 v (ids.length + 1) (todoRow ids ++ [.int .i64 ((a : Nat) : Int)])) (hg : (w.alloc o).grownBy w' u4.ownBlock) (hl : v.ownBlock = u4.ownBlock ∨ v.ownBlock = some (w.alloc o).heap.size) : StE W p m v u5 L (ids ++ [a]) N w' := by
  obtain ⟨sv, s⟩ := h; exact ⟨sv, s.push4 hr hg hl⟩
theorem StE.push5 {W : World} {p m : Nat} {u4 u5 v : Value} {L : List Nd} {ids : List Nat} {N : List Nd} {w w' : World} {x : Nd} {o : Obj} (h : StE W p m u4 u5 L ids N w) (hr : w'.ownsRow W.heap.size 36 7 v (N.length + 1) (rowOf N ++ x.cells.toList)) (hg : (w.alloc o).grownBy w' u5.ownBlock) (hl : v.ownBlock = u5.ownBlock ∨ v.ownBlock = some (w.alloc o).heap.size) : StE W p m u4 v L ids (N ++ [x]) w' := by
  obtain ⟨sv, s⟩ := h; exact ⟨sv, s.push5 hr hg hl⟩

/-- Ahead of each node of the loop that makes them. -/
structure Loop1 (W : World) (p m n i : Nat) (u4 u5 : Value) (w : World) : Prop where
  st : ∃ L ids N, StE W p m u4 u5 L ids N w ∧ NumOf L ids N ∧ ids.length ≤ i ∧ (∀ x ∈ N, x.Ok)
  le : i ≤ n
  le100 : i ≤ 100

theorem loop1_start {W w : World} {n : Nat} (S : StoreAt W.heap.size w (W.heap.size + 1) W.heap.size (.slice none 0 0) []) (hb : Below W.heap.size W w) : Loop1 W (W.heap.size + 1) W.heap.size n 0 (.slice none 0 0) (.slice none 0 0) w :=
  ⟨⟨[], [], [], ⟨_, S, World.ownsRow_nil _ _ _ _, World.ownsRow_nil _ _ _ _, fun g e => by simp [Value.ownBlock] at e, fun g e => by simp [Value.ownBlock] at e, hb⟩, ⟨rfl, fun j a x h => by simp at h⟩, Nat.le_refl _, by simp⟩, Nat.zero_le _, Nat.zero_le _⟩

/-- How many kids the document says. -/
def rk (o : Nat) : Int := if o = 1 ∨ o = 2 then 0 else if o = 3 ∨ o = 4 ∨ o = 22 ∨ o = 23 ∨ o = 24 then 1 else if 5 ≤ o ∧ o ≤ 21 then 2 else if o = 25 then 3 else -1
theorem rk_kc {o : Nat} (h : 1 ≤ o ∧ o ≤ 25) : rk o = ((kc o : Nat) : Int) := by
  have : ∀ o : Fin 26, 1 ≤ o.val → rk o.val = ((kc o.val : Nat) : Int) := by decide
  exact this ⟨o, by omega⟩ h.1

theorem mayN_op {L : List Nd} {x : Nd} (h : mayN L x = true) : 1 ≤ x.o ∧ x.o ≤ 25 := by
  unfold mayN at h
  simp only [Bool.and_eq_true, decide_eq_true_eq] at h
  have h3 := h.2
  split at h3
  · omega
  · split at h3
    · omega
    · simp only [Bool.and_eq_true, decide_eq_true_eq] at h3
      have hv := h3.1
      unfold vecW at hv
      split at hv
      · omega
      split at hv
      · omega
      split at hv
      · omega
      split at hv
      · omega
      split at hv
      · have := widthB_op hv; omega
      · omega
end Tm
end Go.Proofs.Ytkfnekhjmnjloaa
