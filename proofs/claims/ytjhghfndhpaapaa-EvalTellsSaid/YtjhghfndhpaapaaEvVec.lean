/-
  The vector of a node, out of the map of those that stand already, as a fact on one call.
-/
import Derived.Test.YtjhghfndhpaapaaEvRef
import Derived.Test.YtjhghfndhpaapaaBvP2
import Derived.Deep.CutRange
namespace Go.Proofs.Ytjhghfndhpaapaa
open Go.RowKit Go.Maps Bv
namespace Tm
set_option maxHeartbeats 2000000
set_option maxRecDepth 100000

/-- What the map in block b answers of three numbers. -/
def LookAt (W : World) (b : Nat) (k0 k1 k2 : Int) (w0 n0 w1 n1 w2 n2 : Nat) : Prop := b < W.heap.size ∧ ∀ w' : World, w'.heap[b]? = W.heap[b]? →
  (Instr.lookup 68 (.map (some b)) (.int .i64 k0) false).run Try.prog w' = .ok (.agg #[.int .u8 ((w0 : Nat) : Int), .int .u64 ((n0 : Nat) : Int)]) w' ∧
  (Instr.lookup 68 (.map (some b)) (.int .i64 k1) false).run Try.prog w' = .ok (.agg #[.int .u8 ((w1 : Nat) : Int), .int .u64 ((n1 : Nat) : Int)]) w' ∧
  (Instr.lookup 68 (.map (some b)) (.int .i64 k2) false).run Try.prog w' = .ok (.agg #[.int .u8 ((w2 : Nat) : Int), .int .u64 ((n2 : Nat) : Int)]) w'

/-- What the walks read. -/
structure VecS (W : World) (b : Nat) (x0 x1 x5 x6 : Value) (k0 k1 k2 : Int) (w0 n0 w1 n1 w2 n2 : Nat) (w : World) : Prop where
  box : At7 w W.heap.size x0 x1 (.int .i64 k0) (.int .i64 k1) (.int .i64 k2) x5 x6
  look : LookAt w b k0 k1 k2 w0 n0 w1 n1 w2 n2
  bel : Below W.heap.size W w
  bl : b < W.heap.size
section
variable {W w : World} {b : Nat} {x0 x1 x5 x6 : Value} {k0 k1 k2 : Int} {w0 n0 w1 n1 w2 n2 : Nat}
theorem LookAt.same {w' : World} (h : LookAt w b k0 k1 k2 w0 n0 w1 n1 w2 n2) (e : w'.heap[b]? = w.heap[b]?) (hs : w.heap.size ≤ w'.heap.size) : LookAt w' b k0 k1 k2 w0 n0 w1 n1 w2 n2 :=
  ⟨Nat.lt_of_lt_of_le h.1 hs, fun v hv => h.2 v (hv.trans e)⟩
theorem VecS.alloc (h : VecS W b x0 x1 x5 x6 k0 k1 k2 w0 n0 w1 n1 w2 n2 w) (o : Obj) : VecS W b x0 x1 x5 x6 k0 k1 k2 w0 n0 w1 n1 w2 n2 (w.alloc o) :=
  ⟨h.box.alloc o, h.look.same (Below.heap_alloc _ _ _ h.look.1) (by simp), bel_alloc h.bel o, h.bl⟩
theorem VecS.drew (h : VecS W b x0 x1 x5 x6 k0 k1 k2 w0 n0 w1 n1 w2 n2 w) : VecS W b x0 x1 x5 x6 k0 k1 k2 w0 n0 w1 n1 w2 n2 w.drew :=
  ⟨h.box.drew, h.look.same rfl (Nat.le_refl _), h.bel.drew, h.bl⟩
theorem VecS.drewN (h : VecS W b x0 x1 x5 x6 k0 k1 k2 w0 n0 w1 n1 w2 n2 w) (q : Nat) : VecS W b x0 x1 x5 x6 k0 k1 k2 w0 n0 w1 n1 w2 n2 (w.drewN q) :=
  ⟨h.box.move (fun _ => rfl), h.look.same rfl (Nat.le_refl _), ⟨h.bel.os, h.bel.tape, h.bel.output, h.bel.size, h.bel.block⟩, h.bl⟩
theorem VecS.setCell (h : VecS W b x0 x1 x5 x6 k0 k1 k2 w0 n0 w1 n1 w2 n2 w) (p : Addr) (u : Value) (hp : W.heap.size < p.block) : VecS W b x0 x1 x5 x6 k0 k1 k2 w0 n0 w1 n1 w2 n2 (w.setCell p u) :=
  ⟨h.box.move (fun o => World.cell?_setCell_far _ _ _ _ (by simp; omega)), h.look.same (Below.heap_setCell _ _ _ _ (by have := h.bl; omega)) (by simp [World.setCell]), h.bel.setCell (Nat.le_of_lt hp) u, h.bl⟩
theorem VecS.facts (h : VecS W b x0 x1 x5 x6 k0 k1 k2 w0 n0 w1 n1 w2 n2 w) : w.cell? ⟨W.heap.size, 0, none⟩ = some x0 ∧ w.cell? ⟨W.heap.size, 1, none⟩ = some x1 ∧ w.cell? ⟨W.heap.size, 2, none⟩ = some (.int .i64 k0) ∧ w.cell? ⟨W.heap.size, 3, none⟩ = some (.int .i64 k1) ∧ w.cell? ⟨W.heap.size, 4, none⟩ = some (.int .i64 k2) ∧ w.cell? ⟨W.heap.size, 5, none⟩ = some x5 ∧ w.cell? ⟨W.heap.size, 6, none⟩ = some x6 ∧
  (Instr.lookup 68 (.map (some b)) (.int .i64 k0) false).run Try.prog w = .ok (.agg #[.int .u8 ((w0 : Nat) : Int), .int .u64 ((n0 : Nat) : Int)]) w ∧
  (Instr.lookup 68 (.map (some b)) (.int .i64 k1) false).run Try.prog w = .ok (.agg #[.int .u8 ((w1 : Nat) : Int), .int .u64 ((n1 : Nat) : Int)]) w ∧
  (Instr.lookup 68 (.map (some b)) (.int .i64 k2) false).run Try.prog w = .ok (.agg #[.int .u8 ((w2 : Nat) : Int), .int .u64 ((n2 : Nat) : Int)]) w := by
  have A := h.box
  unfold At7 at A
  exact ⟨A.1, A.2.1, A.2.2.1, A.2.2.2.1, A.2.2.2.2.1, A.2.2.2.2.2.1, A.2.2.2.2.2.2, h.look.2 w rfl⟩
end

/-- Two cells, the whole of a vector's variable. -/
def At2 (w : World) (p : Nat) (x y : Value) : Prop := p < w.heap.size ∧ w.cell? ⟨p, 0, none⟩ = some x ∧ w.cell? ⟨p, 1, none⟩ = some y

/-- What the call has of its own: the node, the answer. -/
structure VecR (W : World) (x0 x1 x2 x3 x4 x5 x6 : Value) (w : World) : Prop where
  box : At7 w W.heap.size x0 x1 x2 x3 x4 x5 x6
  r0 : w.cell? ⟨W.heap.size + 1, 0, none⟩ = some (.int .u8 0)
  r1 : w.cell? ⟨W.heap.size + 1, 1, none⟩ = some (.int .u64 0)
  fr : ∀ o, w.frozen? ⟨W.heap.size + 1, o, none⟩ = false
  l : W.heap.size + 1 < w.heap.size
  b : Below W.heap.size W w
theorem VecR.call {W w w' : World} {x0 x1 x2 x3 x4 x5 x6 : Value} (h : VecR W x0 x1 x2 x3 x4 x5 x6 w) (k : Below w.heap.size w w') : VecR W x0 x1 x2 x3 x4 x5 x6 w' := by
  have l := h.l
  exact ⟨h.box.keep k, (k.cell (p := ⟨W.heap.size + 1, 0, none⟩) l).trans h.r0, (k.cell (p := ⟨W.heap.size + 1, 1, none⟩) l).trans h.r1,
    fun o => (k.frozen (p := ⟨W.heap.size + 1, o, none⟩) l).trans (h.fr o), Nat.lt_of_lt_of_le l k.size, bel_call h.b k⟩
theorem VecR.drew {W w : World} {x0 x1 x2 x3 x4 x5 x6 : Value} (h : VecR W x0 x1 x2 x3 x4 x5 x6 w) : VecR W x0 x1 x2 x3 x4 x5 x6 w.drew := ⟨h.box.drew, h.r0, h.r1, h.fr, h.l, h.b.drew⟩

theorem vec_const (w n l b : Nat) (k0 k1 k2 : Int) (w0 n0 w1 n1 w2 n2 : Nat) (W : World) (av : Value) (HL : Hid (LookAt W b k0 k1 k2 w0 n0 w1 n1 w2 n2)) :
    Calls Try.prog 22 #[.agg #[.int .u8 1, .int .u8 ((w : Nat) : Int), .int .i64 k0, .int .i64 k1, .int .i64 k2, .int .u64 ((n : Nat) : Int), .int .u8 ((l : Nat) : Int)], .map (some b), av] W fun e W' => e = .returned (.tuple #[.agg #[.int .u8 ((w : Nat) : Int), .int .u64 ((n : Nat) : Int)], .int .i64 0]) ∧ Below W.heap.size W W' := by
  have HS : Hid (VecS W b (.int .u8 1) (.int .u8 ((w : Nat) : Int)) (.int .u64 ((n : Nat) : Int)) (.int .u8 ((l : Nat) : Int)) k0 k1 k2 w0 n0 w1 n1 w2 n2 ((W.alloc (.cells #[.int .u8 1, .int .u8 ((w : Nat) : Int), .int .i64 k0, .int .i64 k1, .int .i64 k2, .int .u64 ((n : Nat) : Int), .int .u8 ((l : Nat) : Int)] 62)).alloc (.cells #[.int .u8 0, .int .u64 0] 31))) :=
    VecS.alloc ⟨At7.new W _ _ _ _ _ _ _ _, HL.out.same (Below.heap_alloc _ _ _ HL.out.1) (by simp), bel_alloc (Below.refl _ _) _, HL.out.1⟩ _
  go_enter Try.func22, Try.ntmps22
  go_upto_region 1 with fail
  go_cut [8, 9, 10] (fun s8 s9 s10 wx => ∃ g h i : Nat, s8 = .pointer (some ⟨g, 0, none⟩) ∧ s9 = .pointer (some ⟨h, 0, none⟩) ∧ s10 = .pointer (some ⟨i, 0, none⟩) ∧ W.heap.size + 1 < g ∧ W.heap.size + 1 < h ∧ W.heap.size + 1 < i ∧ At2 wx g (.int .u8 ((w0 : Nat) : Int)) (.int .u64 ((n0 : Nat) : Int)) ∧ At2 wx h (.int .u8 ((w1 : Nat) : Int)) (.int .u64 ((n1 : Nat) : Int)) ∧ At2 wx i (.int .u8 ((w2 : Nat) : Int)) (.int .u64 ((n2 : Nat) : Int)) ∧ At7 wx W.heap.size (.int .u8 1) (.int .u8 ((w : Nat) : Int)) (.int .i64 k0) (.int .i64 k1) (.int .i64 k2) (.int .u64 ((n : Nat) : Int)) (.int .u8 ((l : Nat) : Int)) ∧ At2 wx (W.heap.size + 1) (.int .u8 0) (.int .u64 0) ∧ (∀ o, wx.frozen? ⟨W.heap.size + 1, o, none⟩ = false) ∧ Below W.heap.size W wx)
  case first =>
    refine wp_region_held_drew (S := fun w' => VecS W b (.int .u8 1) (.int .u8 ((w : Nat) : Int)) (.int .u64 ((n : Nat) : Int)) (.int .u8 ((l : Nat) : Int)) k0 k1 k2 w0 n0 w1 n1 w2 n2 w') (by kernel_rfl) HS.out.drew (fun hHeld => ?_)
    refine wpAnyH_take (i := 0) (v := .map (some b)) (by simp only [List.getElem?_toArray, List.getElem?_cons_zero]; rfl) (by kernel_rfl) (by kernel_rfl) (by kernel_rfl) (by exact fun _ _ _ h => h) (Or.inl ⟨by rfl, ?_⟩) hHeld ?_
    · intro w' hSw
      go_simp
    simp only [Act.put, List.setIfInBounds_toArray, List.set_cons_zero, List.set_cons_succ]
    refine wpAnyH_take (i := 1) (v := .pointer (some ⟨W.heap.size, 2, none⟩)) (by simp only [List.getElem?_toArray, List.getElem?_cons_zero, List.getElem?_cons_succ]; rfl) (by kernel_rfl) (by kernel_rfl) (by kernel_rfl) (by exact fun _ _ _ h => h) (Or.inl ⟨by rfl, ?_⟩) hHeld ?_
    · intro w' hSw
      go_simp
    simp only [Act.put, List.setIfInBounds_toArray, List.set_cons_zero, List.set_cons_succ]
    refine wpAnyH_take (i := 2) (v := .pointer (some ⟨W.heap.size, 2, none⟩)) (by simp only [List.getElem?_toArray, List.getElem?_cons_zero, List.getElem?_cons_succ]; rfl) (by kernel_rfl) (by kernel_rfl) (by kernel_rfl) (by exact fun _ _ _ h => h) (Or.inl ⟨by rfl, ?_⟩) hHeld ?_
    · intro w' hSw
      go_simp
    simp only [Act.put, List.setIfInBounds_toArray, List.set_cons_zero, List.set_cons_succ]
    refine wpAnyH_take (i := 3) (v := .int .i64 k0) (by simp only [List.getElem?_toArray, List.getElem?_cons_zero, List.getElem?_cons_succ]; rfl) (by kernel_rfl) (by kernel_rfl) (by kernel_rfl) (by exact fun _ _ _ h => h) (Or.inl ⟨by rfl, ?_⟩) hHeld ?_
    · intro w' hSw
      obtain ⟨f0, f1, f2, f3, f4, f5, f6, f7, f8, f9⟩ := hSw.facts; have lW := hSw.box.lt; go_simp
    simp only [Act.put, List.setIfInBounds_toArray, List.set_cons_zero, List.set_cons_succ]
    refine wpAnyH_take (i := 4) (v := .agg #[.int .u8 ((w0 : Nat) : Int), .int .u64 ((n0 : Nat) : Int)]) (by simp only [List.getElem?_toArray, List.getElem?_cons_zero, List.getElem?_cons_succ]; rfl) (by kernel_rfl) (by kernel_rfl) (by kernel_rfl) (by exact fun _ _ _ h => h) (Or.inl ⟨by rfl, ?_⟩) hHeld ?_
    · intro w' hSw
      obtain ⟨f0, f1, f2, f3, f4, f5, f6, f7, f8, f9⟩ := hSw.facts; have lW := hSw.box.lt; go_simp
    simp only [Act.put, List.setIfInBounds_toArray, List.set_cons_zero, List.set_cons_succ]
    refine wpAnyH_take (i := 5) (v := .map (some b)) (by simp only [List.getElem?_toArray, List.getElem?_cons_zero, List.getElem?_cons_succ]; rfl) (by kernel_rfl) (by kernel_rfl) (by kernel_rfl) (by exact fun _ _ _ h => h) (Or.inl ⟨by rfl, ?_⟩) hHeld ?_
    · intro w' hSw
      go_simp
    simp only [Act.put, List.setIfInBounds_toArray, List.set_cons_zero, List.set_cons_succ]
    refine wpAnyH_take (i := 6) (v := .pointer (some ⟨W.heap.size, 2, none⟩)) (by simp only [List.getElem?_toArray, List.getElem?_cons_zero, List.getElem?_cons_succ]; rfl) (by kernel_rfl) (by kernel_rfl) (by kernel_rfl) (by exact fun _ _ _ h => h) (Or.inl ⟨by rfl, ?_⟩) hHeld ?_
    · intro w' hSw
      go_simp
    simp only [Act.put, List.setIfInBounds_toArray, List.set_cons_zero, List.set_cons_succ]
    refine wpAnyH_take (i := 7) (v := .pointer (some ⟨W.heap.size, 3, none⟩)) (by simp only [List.getElem?_toArray, List.getElem?_cons_zero, List.getElem?_cons_succ]; rfl) (by kernel_rfl) (by kernel_rfl) (by kernel_rfl) (by exact fun _ _ _ h => h) (Or.inl ⟨by rfl, ?_⟩) hHeld ?_
    · intro w' hSw
      go_simp
    simp only [Act.put, List.setIfInBounds_toArray, List.set_cons_zero, List.set_cons_succ]
    refine wpAnyH_take (i := 8) (v := .int .i64 k1) (by simp only [List.getElem?_toArray, List.getElem?_cons_zero, List.getElem?_cons_succ]; rfl) (by kernel_rfl) (by kernel_rfl) (by kernel_rfl) (by exact fun _ _ _ h => h) (Or.inl ⟨by rfl, ?_⟩) hHeld ?_
    · intro w' hSw
      obtain ⟨f0, f1, f2, f3, f4, f5, f6, f7, f8, f9⟩ := hSw.facts; have lW := hSw.box.lt; go_simp
    simp only [Act.put, List.setIfInBounds_toArray, List.set_cons_zero, List.set_cons_succ]
    refine wpAnyH_take (i := 9) (v := .agg #[.int .u8 ((w1 : Nat) : Int), .int .u64 ((n1 : Nat) : Int)]) (by simp only [List.getElem?_toArray, List.getElem?_cons_zero, List.getElem?_cons_succ]; rfl) (by kernel_rfl) (by kernel_rfl) (by kernel_rfl) (by exact fun _ _ _ h => h) (Or.inl ⟨by rfl, ?_⟩) hHeld ?_
    · intro w' hSw
      obtain ⟨f0, f1, f2, f3, f4, f5, f6, f7, f8, f9⟩ := hSw.facts; have lW := hSw.box.lt; go_simp
    simp only [Act.put, List.setIfInBounds_toArray, List.set_cons_zero, List.set_cons_succ]
    refine wpAnyH_take (i := 10) (v := .map (some b)) (by simp only [List.getElem?_toArray, List.getElem?_cons_zero, List.getElem?_cons_succ]; rfl) (by kernel_rfl) (by kernel_rfl) (by kernel_rfl) (by exact fun _ _ _ h => h) (Or.inl ⟨by rfl, ?_⟩) hHeld ?_
    · intro w' hSw
      go_simp
    simp only [Act.put, List.setIfInBounds_toArray, List.set_cons_zero, List.set_cons_succ]
    refine wpAnyH_take (i := 11) (v := .pointer (some ⟨W.heap.size, 2, none⟩)) (by simp only [List.getElem?_toArray, List.getElem?_cons_zero, List.getElem?_cons_succ]; rfl) (by kernel_rfl) (by kernel_rfl) (by kernel_rfl) (by exact fun _ _ _ h => h) (Or.inl ⟨by rfl, ?_⟩) hHeld ?_
    · intro w' hSw
      go_simp
    simp only [Act.put, List.setIfInBounds_toArray, List.set_cons_zero, List.set_cons_succ]
    refine wpAnyH_take (i := 12) (v := .pointer (some ⟨W.heap.size, 4, none⟩)) (by simp only [List.getElem?_toArray, List.getElem?_cons_zero, List.getElem?_cons_succ]; rfl) (by kernel_rfl) (by kernel_rfl) (by kernel_rfl) (by exact fun _ _ _ h => h) (Or.inl ⟨by rfl, ?_⟩) hHeld ?_
    · intro w' hSw
      go_simp
    simp only [Act.put, List.setIfInBounds_toArray, List.set_cons_zero, List.set_cons_succ]
    refine wpAnyH_take (i := 13) (v := .int .i64 k2) (by simp only [List.getElem?_toArray, List.getElem?_cons_zero, List.getElem?_cons_succ]; rfl) (by kernel_rfl) (by kernel_rfl) (by kernel_rfl) (by exact fun _ _ _ h => h) (Or.inl ⟨by rfl, ?_⟩) hHeld ?_
    · intro w' hSw
      obtain ⟨f0, f1, f2, f3, f4, f5, f6, f7, f8, f9⟩ := hSw.facts; have lW := hSw.box.lt; go_simp
    simp only [Act.put, List.setIfInBounds_toArray, List.set_cons_zero, List.set_cons_succ]
    refine wpAnyH_take (i := 14) (v := .agg #[.int .u8 ((w2 : Nat) : Int), .int .u64 ((n2 : Nat) : Int)]) (by simp only [List.getElem?_toArray, List.getElem?_cons_zero, List.getElem?_cons_succ]; rfl) (by kernel_rfl) (by kernel_rfl) (by kernel_rfl) (by exact fun _ _ _ h => h) (Or.inl ⟨by rfl, ?_⟩) hHeld ?_
    · intro w' hSw
      obtain ⟨f0, f1, f2, f3, f4, f5, f6, f7, f8, f9⟩ := hSw.facts; have lW := hSw.box.lt; go_simp
    simp only [Act.put, List.setIfInBounds_toArray, List.set_cons_zero, List.set_cons_succ]
    refine wpAnyH_ready (rs := [15, 16, 17]) (by kernel_rfl) (by simp) ?_
    refine AllReadyH.cons (by simp only [List.getElem?_toArray, List.getElem?_cons_zero, List.getElem?_cons_succ]; rfl) (fun K hK => ?_) ?_
    · go_simp
      refine hK.out _ _ ?_ (fun hHeld => ?_)
      · repeat (first | exact hHeld | exact HS.out | (refine VecS.alloc ?_ _) | (refine VecS.drew ?_) | (refine VecS.setCell ?_ _ _ (by show W.heap.size < _; simp; try omega)))
      clear hK K
      try simp only [Act.put, List.setIfInBounds_toArray, List.set_cons_zero, List.set_cons_succ]
      refine wpAnyH_ready (rs := [16, 17]) (by kernel_rfl) (by simp) ?_
      refine AllReadyH.cons (by simp only [List.getElem?_toArray, List.getElem?_cons_zero, List.getElem?_cons_succ]; rfl) (fun K hK => ?_) ?_
      · go_simp
        refine hK.out _ _ ?_ (fun hHeld => ?_)
        · repeat (first | exact hHeld | exact HS.out | (refine VecS.alloc ?_ _) | (refine VecS.drew ?_) | (refine VecS.setCell ?_ _ _ (by show W.heap.size < _; simp; try omega)))
        clear hK K
        try simp only [Act.put, List.setIfInBounds_toArray, List.set_cons_zero, List.set_cons_succ]
        refine wpAnyH_ready (rs := [17]) (by kernel_rfl) (by simp) ?_
        refine AllReadyH.cons (by simp only [List.getElem?_toArray, List.getElem?_cons_zero, List.getElem?_cons_succ]; rfl) (fun K hK => ?_) ?_
        · go_simp
          refine hK.out _ _ ?_ (fun hHeld => ?_)
          · repeat (first | exact hHeld | exact HS.out | (refine VecS.alloc ?_ _) | (refine VecS.drew ?_) | (refine VecS.setCell ?_ _ _ (by show W.heap.size < _; simp; try omega)))
          clear hK K
          try simp only [Act.put, List.setIfInBounds_toArray, List.set_cons_zero, List.set_cons_succ]
          refine wpAnyH_ready (rs := [18]) (by kernel_rfl) (by simp) ?_
          refine AllReadyH.cons (by simp only [List.getElem?_toArray, List.getElem?_cons_zero, List.getElem?_cons_succ]; rfl) (fun K hK => ?_) ?_
          · go_simp
            refine hK.out _ _ ?_ (fun hHeld => ?_)
            · repeat (first | exact hHeld | exact HS.out | (refine VecS.alloc ?_ _) | (refine VecS.drew ?_) | (refine VecS.setCell ?_ _ _ (by show W.heap.size < _; simp; try omega)))
            clear hK K
            try simp only [Act.put, List.setIfInBounds_toArray, List.set_cons_zero, List.set_cons_succ]
            refine wpAnyH_ready (rs := [19]) (by kernel_rfl) (by simp) ?_
            refine AllReadyH.cons (by simp only [List.getElem?_toArray, List.getElem?_cons_zero, List.getElem?_cons_succ]; rfl) (fun K hK => ?_) ?_
            · go_simp
              refine hK.out _ _ ?_ (fun hHeld => ?_)
              · repeat (first | exact hHeld | exact HS.out | (refine VecS.alloc ?_ _) | (refine VecS.drew ?_) | (refine VecS.setCell ?_ _ _ (by show W.heap.size < _; simp; try omega)))
              clear hK K
              try simp only [Act.put, List.setIfInBounds_toArray, List.set_cons_zero, List.set_cons_succ]
              refine wpAnyH_ready (rs := [20]) (by kernel_rfl) (by simp) ?_
              refine AllReadyH.cons (by simp only [List.getElem?_toArray, List.getElem?_cons_zero, List.getElem?_cons_succ]; rfl) (fun K hK => ?_) ?_
              · go_simp
                refine hK.out _ _ ?_ (fun hHeld => ?_)
                · repeat (first | exact hHeld | exact HS.out | (refine VecS.alloc ?_ _) | (refine VecS.drew ?_) | (refine VecS.setCell ?_ _ _ (by show W.heap.size < _; simp; try omega)))
                clear hK K
                try simp only [Act.put, List.setIfInBounds_toArray, List.set_cons_zero, List.set_cons_succ]
                refine wpAnyH_done (by kernel_rfl) ?_ _
                go_wp2_with fail
                go_meet
                refine ⟨_, _, _, rfl, rfl, rfl, by omega, by omega, by omega, ⟨?_, ?_, ?_⟩, ⟨?_, ?_, ?_⟩, ⟨?_, ?_, ?_⟩, hHeld.box, ⟨?_, ?_, ?_⟩, fun o => ?_, hHeld.bel⟩
                all_goals first | (simp [go_sem]; done) | (simp [go_sem]; omega) | skip
              exact AllReadyH.nil
            exact AllReadyH.nil
          exact AllReadyH.nil
        exact AllReadyH.nil
      refine AllReadyH.cons (by simp only [List.getElem?_toArray, List.getElem?_cons_zero, List.getElem?_cons_succ]; rfl) (fun K hK => ?_) ?_
      · go_simp
        refine hK.out _ _ ?_ (fun hHeld => ?_)
        · repeat (first | exact hHeld | exact HS.out | (refine VecS.alloc ?_ _) | (refine VecS.drew ?_) | (refine VecS.setCell ?_ _ _ (by show W.heap.size < _; simp; try omega)))
        clear hK K
        try simp only [Act.put, List.setIfInBounds_toArray, List.set_cons_zero, List.set_cons_succ]
        refine wpAnyH_ready (rs := [16]) (by kernel_rfl) (by simp) ?_
        refine AllReadyH.cons (by simp only [List.getElem?_toArray, List.getElem?_cons_zero, List.getElem?_cons_succ]; rfl) (fun K hK => ?_) ?_
        · go_simp
          refine hK.out _ _ ?_ (fun hHeld => ?_)
          · repeat (first | exact hHeld | exact HS.out | (refine VecS.alloc ?_ _) | (refine VecS.drew ?_) | (refine VecS.setCell ?_ _ _ (by show W.heap.size < _; simp; try omega)))
          clear hK K
          try simp only [Act.put, List.setIfInBounds_toArray, List.set_cons_zero, List.set_cons_succ]
          refine wpAnyH_ready (rs := [18]) (by kernel_rfl) (by simp) ?_
          refine AllReadyH.cons (by simp only [List.getElem?_toArray, List.getElem?_cons_zero, List.getElem?_cons_succ]; rfl) (fun K hK => ?_) ?_
          · go_simp
            refine hK.out _ _ ?_ (fun hHeld => ?_)
            · repeat (first | exact hHeld | exact HS.out | (refine VecS.alloc ?_ _) | (refine VecS.drew ?_) | (refine VecS.setCell ?_ _ _ (by show W.heap.size < _; simp; try omega)))
            clear hK K
            try simp only [Act.put, List.setIfInBounds_toArray, List.set_cons_zero, List.set_cons_succ]
            refine wpAnyH_ready (rs := [19]) (by kernel_rfl) (by simp) ?_
            refine AllReadyH.cons (by simp only [List.getElem?_toArray, List.getElem?_cons_zero, List.getElem?_cons_succ]; rfl) (fun K hK => ?_) ?_
            · go_simp
              refine hK.out _ _ ?_ (fun hHeld => ?_)
              · repeat (first | exact hHeld | exact HS.out | (refine VecS.alloc ?_ _) | (refine VecS.drew ?_) | (refine VecS.setCell ?_ _ _ (by show W.heap.size < _; simp; try omega)))
              clear hK K
              try simp only [Act.put, List.setIfInBounds_toArray, List.set_cons_zero, List.set_cons_succ]
              refine wpAnyH_ready (rs := [20]) (by kernel_rfl) (by simp) ?_
              refine AllReadyH.cons (by simp only [List.getElem?_toArray, List.getElem?_cons_zero, List.getElem?_cons_succ]; rfl) (fun K hK => ?_) ?_
              · go_simp
                refine hK.out _ _ ?_ (fun hHeld => ?_)
                · repeat (first | exact hHeld | exact HS.out | (refine VecS.alloc ?_ _) | (refine VecS.drew ?_) | (refine VecS.setCell ?_ _ _ (by show W.heap.size < _; simp; try omega)))
                clear hK K
                try simp only [Act.put, List.setIfInBounds_toArray, List.set_cons_zero, List.set_cons_succ]
                refine wpAnyH_done (by kernel_rfl) ?_ _
                go_wp2_with fail
                go_meet
                refine ⟨_, _, _, rfl, rfl, rfl, by omega, by omega, by omega, ⟨?_, ?_, ?_⟩, ⟨?_, ?_, ?_⟩, ⟨?_, ?_, ?_⟩, hHeld.box, ⟨?_, ?_, ?_⟩, fun o => ?_, hHeld.bel⟩
                all_goals first | (simp [go_sem]; done) | (simp [go_sem]; omega) | skip
              exact AllReadyH.nil
            exact AllReadyH.nil
          exact AllReadyH.nil
        exact AllReadyH.nil
      exact AllReadyH.nil
    refine AllReadyH.cons (by simp only [List.getElem?_toArray, List.getElem?_cons_zero, List.getElem?_cons_succ]; rfl) (fun K hK => ?_) ?_
    · go_simp
      refine hK.out _ _ ?_ (fun hHeld => ?_)
      · repeat (first | exact hHeld | exact HS.out | (refine VecS.alloc ?_ _) | (refine VecS.drew ?_) | (refine VecS.setCell ?_ _ _ (by show W.heap.size < _; simp; try omega)))
      clear hK K
      try simp only [Act.put, List.setIfInBounds_toArray, List.set_cons_zero, List.set_cons_succ]
      refine wpAnyH_ready (rs := [15, 17]) (by kernel_rfl) (by simp) ?_
      refine AllReadyH.cons (by simp only [List.getElem?_toArray, List.getElem?_cons_zero, List.getElem?_cons_succ]; rfl) (fun K hK => ?_) ?_
      · go_simp
        refine hK.out _ _ ?_ (fun hHeld => ?_)
        · repeat (first | exact hHeld | exact HS.out | (refine VecS.alloc ?_ _) | (refine VecS.drew ?_) | (refine VecS.setCell ?_ _ _ (by show W.heap.size < _; simp; try omega)))
        clear hK K
        try simp only [Act.put, List.setIfInBounds_toArray, List.set_cons_zero, List.set_cons_succ]
        refine wpAnyH_ready (rs := [17]) (by kernel_rfl) (by simp) ?_
        refine AllReadyH.cons (by simp only [List.getElem?_toArray, List.getElem?_cons_zero, List.getElem?_cons_succ]; rfl) (fun K hK => ?_) ?_
        · go_simp
          refine hK.out _ _ ?_ (fun hHeld => ?_)
          · repeat (first | exact hHeld | exact HS.out | (refine VecS.alloc ?_ _) | (refine VecS.drew ?_) | (refine VecS.setCell ?_ _ _ (by show W.heap.size < _; simp; try omega)))
          clear hK K
          try simp only [Act.put, List.setIfInBounds_toArray, List.set_cons_zero, List.set_cons_succ]
          refine wpAnyH_ready (rs := [18]) (by kernel_rfl) (by simp) ?_
          refine AllReadyH.cons (by simp only [List.getElem?_toArray, List.getElem?_cons_zero, List.getElem?_cons_succ]; rfl) (fun K hK => ?_) ?_
          · go_simp
            refine hK.out _ _ ?_ (fun hHeld => ?_)
            · repeat (first | exact hHeld | exact HS.out | (refine VecS.alloc ?_ _) | (refine VecS.drew ?_) | (refine VecS.setCell ?_ _ _ (by show W.heap.size < _; simp; try omega)))
            clear hK K
            try simp only [Act.put, List.setIfInBounds_toArray, List.set_cons_zero, List.set_cons_succ]
            refine wpAnyH_ready (rs := [19]) (by kernel_rfl) (by simp) ?_
            refine AllReadyH.cons (by simp only [List.getElem?_toArray, List.getElem?_cons_zero, List.getElem?_cons_succ]; rfl) (fun K hK => ?_) ?_
            · go_simp
              refine hK.out _ _ ?_ (fun hHeld => ?_)
              · repeat (first | exact hHeld | exact HS.out | (refine VecS.alloc ?_ _) | (refine VecS.drew ?_) | (refine VecS.setCell ?_ _ _ (by show W.heap.size < _; simp; try omega)))
              clear hK K
              try simp only [Act.put, List.setIfInBounds_toArray, List.set_cons_zero, List.set_cons_succ]
              refine wpAnyH_ready (rs := [20]) (by kernel_rfl) (by simp) ?_
              refine AllReadyH.cons (by simp only [List.getElem?_toArray, List.getElem?_cons_zero, List.getElem?_cons_succ]; rfl) (fun K hK => ?_) ?_
              · go_simp
                refine hK.out _ _ ?_ (fun hHeld => ?_)
                · repeat (first | exact hHeld | exact HS.out | (refine VecS.alloc ?_ _) | (refine VecS.drew ?_) | (refine VecS.setCell ?_ _ _ (by show W.heap.size < _; simp; try omega)))
                clear hK K
                try simp only [Act.put, List.setIfInBounds_toArray, List.set_cons_zero, List.set_cons_succ]
                refine wpAnyH_done (by kernel_rfl) ?_ _
                go_wp2_with fail
                go_meet
                refine ⟨_, _, _, rfl, rfl, rfl, by omega, by omega, by omega, ⟨?_, ?_, ?_⟩, ⟨?_, ?_, ?_⟩, ⟨?_, ?_, ?_⟩, hHeld.box, ⟨?_, ?_, ?_⟩, fun o => ?_, hHeld.bel⟩
                all_goals first | (simp [go_sem]; done) | (simp [go_sem]; omega) | skip
              exact AllReadyH.nil
            exact AllReadyH.nil
          exact AllReadyH.nil
        exact AllReadyH.nil
      refine AllReadyH.cons (by simp only [List.getElem?_toArray, List.getElem?_cons_zero, List.getElem?_cons_succ]; rfl) (fun K hK => ?_) ?_
      · go_simp
        refine hK.out _ _ ?_ (fun hHeld => ?_)
        · repeat (first | exact hHeld | exact HS.out | (refine VecS.alloc ?_ _) | (refine VecS.drew ?_) | (refine VecS.setCell ?_ _ _ (by show W.heap.size < _; simp; try omega)))
        clear hK K
        try simp only [Act.put, List.setIfInBounds_toArray, List.set_cons_zero, List.set_cons_succ]
        refine wpAnyH_ready (rs := [15]) (by kernel_rfl) (by simp) ?_
        refine AllReadyH.cons (by simp only [List.getElem?_toArray, List.getElem?_cons_zero, List.getElem?_cons_succ]; rfl) (fun K hK => ?_) ?_
        · go_simp
          refine hK.out _ _ ?_ (fun hHeld => ?_)
          · repeat (first | exact hHeld | exact HS.out | (refine VecS.alloc ?_ _) | (refine VecS.drew ?_) | (refine VecS.setCell ?_ _ _ (by show W.heap.size < _; simp; try omega)))
          clear hK K
          try simp only [Act.put, List.setIfInBounds_toArray, List.set_cons_zero, List.set_cons_succ]
          refine wpAnyH_ready (rs := [18]) (by kernel_rfl) (by simp) ?_
          refine AllReadyH.cons (by simp only [List.getElem?_toArray, List.getElem?_cons_zero, List.getElem?_cons_succ]; rfl) (fun K hK => ?_) ?_
          · go_simp
            refine hK.out _ _ ?_ (fun hHeld => ?_)
            · repeat (first | exact hHeld | exact HS.out | (refine VecS.alloc ?_ _) | (refine VecS.drew ?_) | (refine VecS.setCell ?_ _ _ (by show W.heap.size < _; simp; try omega)))
            clear hK K
            try simp only [Act.put, List.setIfInBounds_toArray, List.set_cons_zero, List.set_cons_succ]
            refine wpAnyH_ready (rs := [19]) (by kernel_rfl) (by simp) ?_
            refine AllReadyH.cons (by simp only [List.getElem?_toArray, List.getElem?_cons_zero, List.getElem?_cons_succ]; rfl) (fun K hK => ?_) ?_
            · go_simp
              refine hK.out _ _ ?_ (fun hHeld => ?_)
              · repeat (first | exact hHeld | exact HS.out | (refine VecS.alloc ?_ _) | (refine VecS.drew ?_) | (refine VecS.setCell ?_ _ _ (by show W.heap.size < _; simp; try omega)))
              clear hK K
              try simp only [Act.put, List.setIfInBounds_toArray, List.set_cons_zero, List.set_cons_succ]
              refine wpAnyH_ready (rs := [20]) (by kernel_rfl) (by simp) ?_
              refine AllReadyH.cons (by simp only [List.getElem?_toArray, List.getElem?_cons_zero, List.getElem?_cons_succ]; rfl) (fun K hK => ?_) ?_
              · go_simp
                refine hK.out _ _ ?_ (fun hHeld => ?_)
                · repeat (first | exact hHeld | exact HS.out | (refine VecS.alloc ?_ _) | (refine VecS.drew ?_) | (refine VecS.setCell ?_ _ _ (by show W.heap.size < _; simp; try omega)))
                clear hK K
                try simp only [Act.put, List.setIfInBounds_toArray, List.set_cons_zero, List.set_cons_succ]
                refine wpAnyH_done (by kernel_rfl) ?_ _
                go_wp2_with fail
                go_meet
                refine ⟨_, _, _, rfl, rfl, rfl, by omega, by omega, by omega, ⟨?_, ?_, ?_⟩, ⟨?_, ?_, ?_⟩, ⟨?_, ?_, ?_⟩, hHeld.box, ⟨?_, ?_, ?_⟩, fun o => ?_, hHeld.bel⟩
                all_goals first | (simp [go_sem]; done) | (simp [go_sem]; omega) | skip
              exact AllReadyH.nil
            exact AllReadyH.nil
          exact AllReadyH.nil
        exact AllReadyH.nil
      exact AllReadyH.nil
    refine AllReadyH.cons (by simp only [List.getElem?_toArray, List.getElem?_cons_zero, List.getElem?_cons_succ]; rfl) (fun K hK => ?_) ?_
    · go_simp
      refine hK.out _ _ ?_ (fun hHeld => ?_)
      · repeat (first | exact hHeld | exact HS.out | (refine VecS.alloc ?_ _) | (refine VecS.drew ?_) | (refine VecS.setCell ?_ _ _ (by show W.heap.size < _; simp; try omega)))
      clear hK K
      try simp only [Act.put, List.setIfInBounds_toArray, List.set_cons_zero, List.set_cons_succ]
      refine wpAnyH_ready (rs := [15, 16]) (by kernel_rfl) (by simp) ?_
      refine AllReadyH.cons (by simp only [List.getElem?_toArray, List.getElem?_cons_zero, List.getElem?_cons_succ]; rfl) (fun K hK => ?_) ?_
      · go_simp
        refine hK.out _ _ ?_ (fun hHeld => ?_)
        · repeat (first | exact hHeld | exact HS.out | (refine VecS.alloc ?_ _) | (refine VecS.drew ?_) | (refine VecS.setCell ?_ _ _ (by show W.heap.size < _; simp; try omega)))
        clear hK K
        try simp only [Act.put, List.setIfInBounds_toArray, List.set_cons_zero, List.set_cons_succ]
        refine wpAnyH_ready (rs := [16]) (by kernel_rfl) (by simp) ?_
        refine AllReadyH.cons (by simp only [List.getElem?_toArray, List.getElem?_cons_zero, List.getElem?_cons_succ]; rfl) (fun K hK => ?_) ?_
        · go_simp
          refine hK.out _ _ ?_ (fun hHeld => ?_)
          · repeat (first | exact hHeld | exact HS.out | (refine VecS.alloc ?_ _) | (refine VecS.drew ?_) | (refine VecS.setCell ?_ _ _ (by show W.heap.size < _; simp; try omega)))
          clear hK K
          try simp only [Act.put, List.setIfInBounds_toArray, List.set_cons_zero, List.set_cons_succ]
          refine wpAnyH_ready (rs := [18]) (by kernel_rfl) (by simp) ?_
          refine AllReadyH.cons (by simp only [List.getElem?_toArray, List.getElem?_cons_zero, List.getElem?_cons_succ]; rfl) (fun K hK => ?_) ?_
          · go_simp
            refine hK.out _ _ ?_ (fun hHeld => ?_)
            · repeat (first | exact hHeld | exact HS.out | (refine VecS.alloc ?_ _) | (refine VecS.drew ?_) | (refine VecS.setCell ?_ _ _ (by show W.heap.size < _; simp; try omega)))
            clear hK K
            try simp only [Act.put, List.setIfInBounds_toArray, List.set_cons_zero, List.set_cons_succ]
            refine wpAnyH_ready (rs := [19]) (by kernel_rfl) (by simp) ?_
            refine AllReadyH.cons (by simp only [List.getElem?_toArray, List.getElem?_cons_zero, List.getElem?_cons_succ]; rfl) (fun K hK => ?_) ?_
            · go_simp
              refine hK.out _ _ ?_ (fun hHeld => ?_)
              · repeat (first | exact hHeld | exact HS.out | (refine VecS.alloc ?_ _) | (refine VecS.drew ?_) | (refine VecS.setCell ?_ _ _ (by show W.heap.size < _; simp; try omega)))
              clear hK K
              try simp only [Act.put, List.setIfInBounds_toArray, List.set_cons_zero, List.set_cons_succ]
              refine wpAnyH_ready (rs := [20]) (by kernel_rfl) (by simp) ?_
              refine AllReadyH.cons (by simp only [List.getElem?_toArray, List.getElem?_cons_zero, List.getElem?_cons_succ]; rfl) (fun K hK => ?_) ?_
              · go_simp
                refine hK.out _ _ ?_ (fun hHeld => ?_)
                · repeat (first | exact hHeld | exact HS.out | (refine VecS.alloc ?_ _) | (refine VecS.drew ?_) | (refine VecS.setCell ?_ _ _ (by show W.heap.size < _; simp; try omega)))
                clear hK K
                try simp only [Act.put, List.setIfInBounds_toArray, List.set_cons_zero, List.set_cons_succ]
                refine wpAnyH_done (by kernel_rfl) ?_ _
                go_wp2_with fail
                go_meet
                refine ⟨_, _, _, rfl, rfl, rfl, by omega, by omega, by omega, ⟨?_, ?_, ?_⟩, ⟨?_, ?_, ?_⟩, ⟨?_, ?_, ?_⟩, hHeld.box, ⟨?_, ?_, ?_⟩, fun o => ?_, hHeld.bel⟩
                all_goals first | (simp [go_sem]; done) | (simp [go_sem]; omega) | skip
              exact AllReadyH.nil
            exact AllReadyH.nil
          exact AllReadyH.nil
        exact AllReadyH.nil
      refine AllReadyH.cons (by simp only [List.getElem?_toArray, List.getElem?_cons_zero, List.getElem?_cons_succ]; rfl) (fun K hK => ?_) ?_
      · go_simp
        refine hK.out _ _ ?_ (fun hHeld => ?_)
        · repeat (first | exact hHeld | exact HS.out | (refine VecS.alloc ?_ _) | (refine VecS.drew ?_) | (refine VecS.setCell ?_ _ _ (by show W.heap.size < _; simp; try omega)))
        clear hK K
        try simp only [Act.put, List.setIfInBounds_toArray, List.set_cons_zero, List.set_cons_succ]
        refine wpAnyH_ready (rs := [15]) (by kernel_rfl) (by simp) ?_
        refine AllReadyH.cons (by simp only [List.getElem?_toArray, List.getElem?_cons_zero, List.getElem?_cons_succ]; rfl) (fun K hK => ?_) ?_
        · go_simp
          refine hK.out _ _ ?_ (fun hHeld => ?_)
          · repeat (first | exact hHeld | exact HS.out | (refine VecS.alloc ?_ _) | (refine VecS.drew ?_) | (refine VecS.setCell ?_ _ _ (by show W.heap.size < _; simp; try omega)))
          clear hK K
          try simp only [Act.put, List.setIfInBounds_toArray, List.set_cons_zero, List.set_cons_succ]
          refine wpAnyH_ready (rs := [18]) (by kernel_rfl) (by simp) ?_
          refine AllReadyH.cons (by simp only [List.getElem?_toArray, List.getElem?_cons_zero, List.getElem?_cons_succ]; rfl) (fun K hK => ?_) ?_
          · go_simp
            refine hK.out _ _ ?_ (fun hHeld => ?_)
            · repeat (first | exact hHeld | exact HS.out | (refine VecS.alloc ?_ _) | (refine VecS.drew ?_) | (refine VecS.setCell ?_ _ _ (by show W.heap.size < _; simp; try omega)))
            clear hK K
            try simp only [Act.put, List.setIfInBounds_toArray, List.set_cons_zero, List.set_cons_succ]
            refine wpAnyH_ready (rs := [19]) (by kernel_rfl) (by simp) ?_
            refine AllReadyH.cons (by simp only [List.getElem?_toArray, List.getElem?_cons_zero, List.getElem?_cons_succ]; rfl) (fun K hK => ?_) ?_
            · go_simp
              refine hK.out _ _ ?_ (fun hHeld => ?_)
              · repeat (first | exact hHeld | exact HS.out | (refine VecS.alloc ?_ _) | (refine VecS.drew ?_) | (refine VecS.setCell ?_ _ _ (by show W.heap.size < _; simp; try omega)))
              clear hK K
              try simp only [Act.put, List.setIfInBounds_toArray, List.set_cons_zero, List.set_cons_succ]
              refine wpAnyH_ready (rs := [20]) (by kernel_rfl) (by simp) ?_
              refine AllReadyH.cons (by simp only [List.getElem?_toArray, List.getElem?_cons_zero, List.getElem?_cons_succ]; rfl) (fun K hK => ?_) ?_
              · go_simp
                refine hK.out _ _ ?_ (fun hHeld => ?_)
                · repeat (first | exact hHeld | exact HS.out | (refine VecS.alloc ?_ _) | (refine VecS.drew ?_) | (refine VecS.setCell ?_ _ _ (by show W.heap.size < _; simp; try omega)))
                clear hK K
                try simp only [Act.put, List.setIfInBounds_toArray, List.set_cons_zero, List.set_cons_succ]
                refine wpAnyH_done (by kernel_rfl) ?_ _
                go_wp2_with fail
                go_meet
                refine ⟨_, _, _, rfl, rfl, rfl, by omega, by omega, by omega, ⟨?_, ?_, ?_⟩, ⟨?_, ?_, ?_⟩, ⟨?_, ?_, ?_⟩, hHeld.box, ⟨?_, ?_, ?_⟩, fun o => ?_, hHeld.bel⟩
                all_goals first | (simp [go_sem]; done) | (simp [go_sem]; omega) | skip
              exact AllReadyH.nil
            exact AllReadyH.nil
          exact AllReadyH.nil
        exact AllReadyH.nil
      exact AllReadyH.nil
    exact AllReadyH.nil

  case rest =>
    obtain ⟨g, h, i, rfl, rfl, rfl, lg, lh, li, ⟨pg, pg0, pg1⟩, ⟨ph, ph0, ph1⟩, ⟨pi, pi0, pi1⟩, bx, ⟨pr, pr0, pr1⟩, fr, hbel⟩ := hcut
    have HR := Lib.hid (⟨bx, pr0, pr1, fr, pr, hbel⟩ : VecR W _ _ _ _ _ _ _ wc)
    have HRD := Lib.hid HR.out.drew
    have f0 := fr 0
    have f1 := fr 1
    unfold At7 at bx
    go_wp2_with fail
    exact bodyPost_ret (v := .tuple #[.agg #[.int .u8 ((w : Nat) : Int), .int .u64 ((n : Nat) : Int)], .int .i64 0]) (by simp [results, Try.results22, go_sem, pr0, pr1]) rfl ⟨rfl, (HR.out.b.setCell (Nat.le_succ _) _).setCell (Nat.le_succ _) _⟩

theorem vec_var (w n l b : Nat) (k0 k1 k2 : Int) (w0 n0 w1 n1 w2 n2 : Nat) (W : World) (av : Value) (v : Nat) (hv : mayB 64 v = true) (hw1 : 1 ≤ w) (hw : w ≤ 64) (HG : Hid (∀ w5, Below W.heap.size W w5 → Calls Try.prog 41 #[.int .u64 ((n : Nat) : Int), av] w5 fun e w6 => e = .returned (.agg #[.int .u8 64, .int .u64 ((v : Nat) : Int)]) ∧ Below w5.heap.size w5 w6)) (HL : Hid (LookAt W b k0 k1 k2 w0 n0 w1 n1 w2 n2)) :
    Calls Try.prog 22 #[.agg #[.int .u8 2, .int .u8 ((w : Nat) : Int), .int .i64 k0, .int .i64 k1, .int .i64 k2, .int .u64 ((n : Nat) : Int), .int .u8 ((l : Nat) : Int)], .map (some b), av] W fun e W' => e = .returned (.tuple #[.agg #[.int .u8 ((w : Nat) : Int), .int .u64 ((low w v : Nat) : Int)], .int .i64 0]) ∧ Below W.heap.size W W' := by
  have HS : Hid (VecS W b (.int .u8 2) (.int .u8 ((w : Nat) : Int)) (.int .u64 ((n : Nat) : Int)) (.int .u8 ((l : Nat) : Int)) k0 k1 k2 w0 n0 w1 n1 w2 n2 ((W.alloc (.cells #[.int .u8 2, .int .u8 ((w : Nat) : Int), .int .i64 k0, .int .i64 k1, .int .i64 k2, .int .u64 ((n : Nat) : Int), .int .u8 ((l : Nat) : Int)] 62)).alloc (.cells #[.int .u8 0, .int .u64 0] 31))) :=
    VecS.alloc ⟨At7.new W _ _ _ _ _ _ _ _, HL.out.same (Below.heap_alloc _ _ _ HL.out.1) (by simp), bel_alloc (Below.refl _ _) _, HL.out.1⟩ _
  go_enter Try.func22, Try.ntmps22
  go_upto_region 1 with fail
  go_cut [8, 9, 10] (fun s8 s9 s10 wx => ∃ g h i : Nat, s8 = .pointer (some ⟨g, 0, none⟩) ∧ s9 = .pointer (some ⟨h, 0, none⟩) ∧ s10 = .pointer (some ⟨i, 0, none⟩) ∧ W.heap.size + 1 < g ∧ W.heap.size + 1 < h ∧ W.heap.size + 1 < i ∧ At2 wx g (.int .u8 ((w0 : Nat) : Int)) (.int .u64 ((n0 : Nat) : Int)) ∧ At2 wx h (.int .u8 ((w1 : Nat) : Int)) (.int .u64 ((n1 : Nat) : Int)) ∧ At2 wx i (.int .u8 ((w2 : Nat) : Int)) (.int .u64 ((n2 : Nat) : Int)) ∧ At7 wx W.heap.size (.int .u8 2) (.int .u8 ((w : Nat) : Int)) (.int .i64 k0) (.int .i64 k1) (.int .i64 k2) (.int .u64 ((n : Nat) : Int)) (.int .u8 ((l : Nat) : Int)) ∧ At2 wx (W.heap.size + 1) (.int .u8 0) (.int .u64 0) ∧ (∀ o, wx.frozen? ⟨W.heap.size + 1, o, none⟩ = false) ∧ Below W.heap.size W wx)
  case first =>
    refine wp_region_held_drew (S := fun w' => VecS W b (.int .u8 2) (.int .u8 ((w : Nat) : Int)) (.int .u64 ((n : Nat) : Int)) (.int .u8 ((l : Nat) : Int)) k0 k1 k2 w0 n0 w1 n1 w2 n2 w') (by kernel_rfl) HS.out.drew (fun hHeld => ?_)
    refine wpAnyH_take (i := 0) (v := .map (some b)) (by simp only [List.getElem?_toArray, List.getElem?_cons_zero]; rfl) (by kernel_rfl) (by kernel_rfl) (by kernel_rfl) (by exact fun _ _ _ h => h) (Or.inl ⟨by rfl, ?_⟩) hHeld ?_
    · intro w' hSw
      go_simp
    simp only [Act.put, List.setIfInBounds_toArray, List.set_cons_zero, List.set_cons_succ]
    refine wpAnyH_take (i := 1) (v := .pointer (some ⟨W.heap.size, 2, none⟩)) (by simp only [List.getElem?_toArray, List.getElem?_cons_zero, List.getElem?_cons_succ]; rfl) (by kernel_rfl) (by kernel_rfl) (by kernel_rfl) (by exact fun _ _ _ h => h) (Or.inl ⟨by rfl, ?_⟩) hHeld ?_
    · intro w' hSw
      go_simp
    simp only [Act.put, List.setIfInBounds_toArray, List.set_cons_zero, List.set_cons_succ]
    refine wpAnyH_take (i := 2) (v := .pointer (some ⟨W.heap.size, 2, none⟩)) (by simp only [List.getElem?_toArray, List.getElem?_cons_zero, List.getElem?_cons_succ]; rfl) (by kernel_rfl) (by kernel_rfl) (by kernel_rfl) (by exact fun _ _ _ h => h) (Or.inl ⟨by rfl, ?_⟩) hHeld ?_
    · intro w' hSw
      go_simp
    simp only [Act.put, List.setIfInBounds_toArray, List.set_cons_zero, List.set_cons_succ]
    refine wpAnyH_take (i := 3) (v := .int .i64 k0) (by simp only [List.getElem?_toArray, List.getElem?_cons_zero, List.getElem?_cons_succ]; rfl) (by kernel_rfl) (by kernel_rfl) (by kernel_rfl) (by exact fun _ _ _ h => h) (Or.inl ⟨by rfl, ?_⟩) hHeld ?_
    · intro w' hSw
      obtain ⟨f0, f1, f2, f3, f4, f5, f6, f7, f8, f9⟩ := hSw.facts; have lW := hSw.box.lt; go_simp
    simp only [Act.put, List.setIfInBounds_toArray, List.set_cons_zero, List.set_cons_succ]
    refine wpAnyH_take (i := 4) (v := .agg #[.int .u8 ((w0 : Nat) : Int), .int .u64 ((n0 : Nat) : Int)]) (by simp only [List.getElem?_toArray, List.getElem?_cons_zero, List.getElem?_cons_succ]; rfl) (by kernel_rfl) (by kernel_rfl) (by kernel_rfl) (by exact fun _ _ _ h => h) (Or.inl ⟨by rfl, ?_⟩) hHeld ?_
    · intro w' hSw
      obtain ⟨f0, f1, f2, f3, f4, f5, f6, f7, f8, f9⟩ := hSw.facts; have lW := hSw.box.lt; go_simp
    simp only [Act.put, List.setIfInBounds_toArray, List.set_cons_zero, List.set_cons_succ]
    refine wpAnyH_take (i := 5) (v := .map (some b)) (by simp only [List.getElem?_toArray, List.getElem?_cons_zero, List.getElem?_cons_succ]; rfl) (by kernel_rfl) (by kernel_rfl) (by kernel_rfl) (by exact fun _ _ _ h => h) (Or.inl ⟨by rfl, ?_⟩) hHeld ?_
    · intro w' hSw
      go_simp
    simp only [Act.put, List.setIfInBounds_toArray, List.set_cons_zero, List.set_cons_succ]
    refine wpAnyH_take (i := 6) (v := .pointer (some ⟨W.heap.size, 2, none⟩)) (by simp only [List.getElem?_toArray, List.getElem?_cons_zero, List.getElem?_cons_succ]; rfl) (by kernel_rfl) (by kernel_rfl) (by kernel_rfl) (by exact fun _ _ _ h => h) (Or.inl ⟨by rfl, ?_⟩) hHeld ?_
    · intro w' hSw
      go_simp
    simp only [Act.put, List.setIfInBounds_toArray, List.set_cons_zero, List.set_cons_succ]
    refine wpAnyH_take (i := 7) (v := .pointer (some ⟨W.heap.size, 3, none⟩)) (by simp only [List.getElem?_toArray, List.getElem?_cons_zero, List.getElem?_cons_succ]; rfl) (by kernel_rfl) (by kernel_rfl) (by kernel_rfl) (by exact fun _ _ _ h => h) (Or.inl ⟨by rfl, ?_⟩) hHeld ?_
    · intro w' hSw
      go_simp
    simp only [Act.put, List.setIfInBounds_toArray, List.set_cons_zero, List.set_cons_succ]
    refine wpAnyH_take (i := 8) (v := .int .i64 k1) (by simp only [List.getElem?_toArray, List.getElem?_cons_zero, List.getElem?_cons_succ]; rfl) (by kernel_rfl) (by kernel_rfl) (by kernel_rfl) (by exact fun _ _ _ h => h) (Or.inl ⟨by rfl, ?_⟩) hHeld ?_
    · intro w' hSw
      obtain ⟨f0, f1, f2, f3, f4, f5, f6, f7, f8, f9⟩ := hSw.facts; have lW := hSw.box.lt; go_simp
    simp only [Act.put, List.setIfInBounds_toArray, List.set_cons_zero, List.set_cons_succ]
    refine wpAnyH_take (i := 9) (v := .agg #[.int .u8 ((w1 : Nat) : Int), .int .u64 ((n1 : Nat) : Int)]) (by simp only [List.getElem?_toArray, List.getElem?_cons_zero, List.getElem?_cons_succ]; rfl) (by kernel_rfl) (by kernel_rfl) (by kernel_rfl) (by exact fun _ _ _ h => h) (Or.inl ⟨by rfl, ?_⟩) hHeld ?_
    · intro w' hSw
      obtain ⟨f0, f1, f2, f3, f4, f5, f6, f7, f8, f9⟩ := hSw.facts; have lW := hSw.box.lt; go_simp
    simp only [Act.put, List.setIfInBounds_toArray, List.set_cons_zero, List.set_cons_succ]
    refine wpAnyH_take (i := 10) (v := .map (some b)) (by simp only [List.getElem?_toArray, List.getElem?_cons_zero, List.getElem?_cons_succ]; rfl) (by kernel_rfl) (by kernel_rfl) (by kernel_rfl) (by exact fun _ _ _ h => h) (Or.inl ⟨by rfl, ?_⟩) hHeld ?_
    · intro w' hSw
      go_simp
    simp only [Act.put, List.setIfInBounds_toArray, List.set_cons_zero, List.set_cons_succ]
    refine wpAnyH_take (i := 11) (v := .pointer (some ⟨W.heap.size, 2, none⟩)) (by simp only [List.getElem?_toArray, List.getElem?_cons_zero, List.getElem?_cons_succ]; rfl) (by kernel_rfl) (by kernel_rfl) (by kernel_rfl) (by exact fun _ _ _ h => h) (Or.inl ⟨by rfl, ?_⟩) hHeld ?_
    · intro w' hSw
      go_simp
    simp only [Act.put, List.setIfInBounds_toArray, List.set_cons_zero, List.set_cons_succ]
    refine wpAnyH_take (i := 12) (v := .pointer (some ⟨W.heap.size, 4, none⟩)) (by simp only [List.getElem?_toArray, List.getElem?_cons_zero, List.getElem?_cons_succ]; rfl) (by kernel_rfl) (by kernel_rfl) (by kernel_rfl) (by exact fun _ _ _ h => h) (Or.inl ⟨by rfl, ?_⟩) hHeld ?_
    · intro w' hSw
      go_simp
    simp only [Act.put, List.setIfInBounds_toArray, List.set_cons_zero, List.set_cons_succ]
    refine wpAnyH_take (i := 13) (v := .int .i64 k2) (by simp only [List.getElem?_toArray, List.getElem?_cons_zero, List.getElem?_cons_succ]; rfl) (by kernel_rfl) (by kernel_rfl) (by kernel_rfl) (by exact fun _ _ _ h => h) (Or.inl ⟨by rfl, ?_⟩) hHeld ?_
    · intro w' hSw
      obtain ⟨f0, f1, f2, f3, f4, f5, f6, f7, f8, f9⟩ := hSw.facts; have lW := hSw.box.lt; go_simp
    simp only [Act.put, List.setIfInBounds_toArray, List.set_cons_zero, List.set_cons_succ]
    refine wpAnyH_take (i := 14) (v := .agg #[.int .u8 ((w2 : Nat) : Int), .int .u64 ((n2 : Nat) : Int)]) (by simp only [List.getElem?_toArray, List.getElem?_cons_zero, List.getElem?_cons_succ]; rfl) (by kernel_rfl) (by kernel_rfl) (by kernel_rfl) (by exact fun _ _ _ h => h) (Or.inl ⟨by rfl, ?_⟩) hHeld ?_
    · intro w' hSw
      obtain ⟨f0, f1, f2, f3, f4, f5, f6, f7, f8, f9⟩ := hSw.facts; have lW := hSw.box.lt; go_simp
    simp only [Act.put, List.setIfInBounds_toArray, List.set_cons_zero, List.set_cons_succ]
    refine wpAnyH_ready (rs := [15, 16, 17]) (by kernel_rfl) (by simp) ?_
    refine AllReadyH.cons (by simp only [List.getElem?_toArray, List.getElem?_cons_zero, List.getElem?_cons_succ]; rfl) (fun K hK => ?_) ?_
    · go_simp
      refine hK.out _ _ ?_ (fun hHeld => ?_)
      · repeat (first | exact hHeld | exact HS.out | (refine VecS.alloc ?_ _) | (refine VecS.drew ?_) | (refine VecS.setCell ?_ _ _ (by show W.heap.size < _; simp; try omega)))
      clear hK K
      try simp only [Act.put, List.setIfInBounds_toArray, List.set_cons_zero, List.set_cons_succ]
      refine wpAnyH_ready (rs := [16, 17]) (by kernel_rfl) (by simp) ?_
      refine AllReadyH.cons (by simp only [List.getElem?_toArray, List.getElem?_cons_zero, List.getElem?_cons_succ]; rfl) (fun K hK => ?_) ?_
      · go_simp
        refine hK.out _ _ ?_ (fun hHeld => ?_)
        · repeat (first | exact hHeld | exact HS.out | (refine VecS.alloc ?_ _) | (refine VecS.drew ?_) | (refine VecS.setCell ?_ _ _ (by show W.heap.size < _; simp; try omega)))
        clear hK K
        try simp only [Act.put, List.setIfInBounds_toArray, List.set_cons_zero, List.set_cons_succ]
        refine wpAnyH_ready (rs := [17]) (by kernel_rfl) (by simp) ?_
        refine AllReadyH.cons (by simp only [List.getElem?_toArray, List.getElem?_cons_zero, List.getElem?_cons_succ]; rfl) (fun K hK => ?_) ?_
        · go_simp
          refine hK.out _ _ ?_ (fun hHeld => ?_)
          · repeat (first | exact hHeld | exact HS.out | (refine VecS.alloc ?_ _) | (refine VecS.drew ?_) | (refine VecS.setCell ?_ _ _ (by show W.heap.size < _; simp; try omega)))
          clear hK K
          try simp only [Act.put, List.setIfInBounds_toArray, List.set_cons_zero, List.set_cons_succ]
          refine wpAnyH_ready (rs := [18]) (by kernel_rfl) (by simp) ?_
          refine AllReadyH.cons (by simp only [List.getElem?_toArray, List.getElem?_cons_zero, List.getElem?_cons_succ]; rfl) (fun K hK => ?_) ?_
          · go_simp
            refine hK.out _ _ ?_ (fun hHeld => ?_)
            · repeat (first | exact hHeld | exact HS.out | (refine VecS.alloc ?_ _) | (refine VecS.drew ?_) | (refine VecS.setCell ?_ _ _ (by show W.heap.size < _; simp; try omega)))
            clear hK K
            try simp only [Act.put, List.setIfInBounds_toArray, List.set_cons_zero, List.set_cons_succ]
            refine wpAnyH_ready (rs := [19]) (by kernel_rfl) (by simp) ?_
            refine AllReadyH.cons (by simp only [List.getElem?_toArray, List.getElem?_cons_zero, List.getElem?_cons_succ]; rfl) (fun K hK => ?_) ?_
            · go_simp
              refine hK.out _ _ ?_ (fun hHeld => ?_)
              · repeat (first | exact hHeld | exact HS.out | (refine VecS.alloc ?_ _) | (refine VecS.drew ?_) | (refine VecS.setCell ?_ _ _ (by show W.heap.size < _; simp; try omega)))
              clear hK K
              try simp only [Act.put, List.setIfInBounds_toArray, List.set_cons_zero, List.set_cons_succ]
              refine wpAnyH_ready (rs := [20]) (by kernel_rfl) (by simp) ?_
              refine AllReadyH.cons (by simp only [List.getElem?_toArray, List.getElem?_cons_zero, List.getElem?_cons_succ]; rfl) (fun K hK => ?_) ?_
              · go_simp
                refine hK.out _ _ ?_ (fun hHeld => ?_)
                · repeat (first | exact hHeld | exact HS.out | (refine VecS.alloc ?_ _) | (refine VecS.drew ?_) | (refine VecS.setCell ?_ _ _ (by show W.heap.size < _; simp; try omega)))
                clear hK K
                try simp only [Act.put, List.setIfInBounds_toArray, List.set_cons_zero, List.set_cons_succ]
                refine wpAnyH_done (by kernel_rfl) ?_ _
                go_wp2_with fail
                go_meet
                refine ⟨_, _, _, rfl, rfl, rfl, by omega, by omega, by omega, ⟨?_, ?_, ?_⟩, ⟨?_, ?_, ?_⟩, ⟨?_, ?_, ?_⟩, hHeld.box, ⟨?_, ?_, ?_⟩, fun o => ?_, hHeld.bel⟩
                all_goals first | (simp [go_sem]; done) | (simp [go_sem]; omega) | skip
              exact AllReadyH.nil
            exact AllReadyH.nil
          exact AllReadyH.nil
        exact AllReadyH.nil
      refine AllReadyH.cons (by simp only [List.getElem?_toArray, List.getElem?_cons_zero, List.getElem?_cons_succ]; rfl) (fun K hK => ?_) ?_
      · go_simp
        refine hK.out _ _ ?_ (fun hHeld => ?_)
        · repeat (first | exact hHeld | exact HS.out | (refine VecS.alloc ?_ _) | (refine VecS.drew ?_) | (refine VecS.setCell ?_ _ _ (by show W.heap.size < _; simp; try omega)))
        clear hK K
        try simp only [Act.put, List.setIfInBounds_toArray, List.set_cons_zero, List.set_cons_succ]
        refine wpAnyH_ready (rs := [16]) (by kernel_rfl) (by simp) ?_
        refine AllReadyH.cons (by simp only [List.getElem?_toArray, List.getElem?_cons_zero, List.getElem?_cons_succ]; rfl) (fun K hK => ?_) ?_
        · go_simp
          refine hK.out _ _ ?_ (fun hHeld => ?_)
          · repeat (first | exact hHeld | exact HS.out | (refine VecS.alloc ?_ _) | (refine VecS.drew ?_) | (refine VecS.setCell ?_ _ _ (by show W.heap.size < _; simp; try omega)))
          clear hK K
          try simp only [Act.put, List.setIfInBounds_toArray, List.set_cons_zero, List.set_cons_succ]
          refine wpAnyH_ready (rs := [18]) (by kernel_rfl) (by simp) ?_
          refine AllReadyH.cons (by simp only [List.getElem?_toArray, List.getElem?_cons_zero, List.getElem?_cons_succ]; rfl) (fun K hK => ?_) ?_
          · go_simp
            refine hK.out _ _ ?_ (fun hHeld => ?_)
            · repeat (first | exact hHeld | exact HS.out | (refine VecS.alloc ?_ _) | (refine VecS.drew ?_) | (refine VecS.setCell ?_ _ _ (by show W.heap.size < _; simp; try omega)))
            clear hK K
            try simp only [Act.put, List.setIfInBounds_toArray, List.set_cons_zero, List.set_cons_succ]
            refine wpAnyH_ready (rs := [19]) (by kernel_rfl) (by simp) ?_
            refine AllReadyH.cons (by simp only [List.getElem?_toArray, List.getElem?_cons_zero, List.getElem?_cons_succ]; rfl) (fun K hK => ?_) ?_
            · go_simp
              refine hK.out _ _ ?_ (fun hHeld => ?_)
              · repeat (first | exact hHeld | exact HS.out | (refine VecS.alloc ?_ _) | (refine VecS.drew ?_) | (refine VecS.setCell ?_ _ _ (by show W.heap.size < _; simp; try omega)))
              clear hK K
              try simp only [Act.put, List.setIfInBounds_toArray, List.set_cons_zero, List.set_cons_succ]
              refine wpAnyH_ready (rs := [20]) (by kernel_rfl) (by simp) ?_
              refine AllReadyH.cons (by simp only [List.getElem?_toArray, List.getElem?_cons_zero, List.getElem?_cons_succ]; rfl) (fun K hK => ?_) ?_
              · go_simp
                refine hK.out _ _ ?_ (fun hHeld => ?_)
                · repeat (first | exact hHeld | exact HS.out | (refine VecS.alloc ?_ _) | (refine VecS.drew ?_) | (refine VecS.setCell ?_ _ _ (by show W.heap.size < _; simp; try omega)))
                clear hK K
                try simp only [Act.put, List.setIfInBounds_toArray, List.set_cons_zero, List.set_cons_succ]
                refine wpAnyH_done (by kernel_rfl) ?_ _
                go_wp2_with fail
                go_meet
                refine ⟨_, _, _, rfl, rfl, rfl, by omega, by omega, by omega, ⟨?_, ?_, ?_⟩, ⟨?_, ?_, ?_⟩, ⟨?_, ?_, ?_⟩, hHeld.box, ⟨?_, ?_, ?_⟩, fun o => ?_, hHeld.bel⟩
                all_goals first | (simp [go_sem]; done) | (simp [go_sem]; omega) | skip
              exact AllReadyH.nil
            exact AllReadyH.nil
          exact AllReadyH.nil
        exact AllReadyH.nil
      exact AllReadyH.nil
    refine AllReadyH.cons (by simp only [List.getElem?_toArray, List.getElem?_cons_zero, List.getElem?_cons_succ]; rfl) (fun K hK => ?_) ?_
    · go_simp
      refine hK.out _ _ ?_ (fun hHeld => ?_)
      · repeat (first | exact hHeld | exact HS.out | (refine VecS.alloc ?_ _) | (refine VecS.drew ?_) | (refine VecS.setCell ?_ _ _ (by show W.heap.size < _; simp; try omega)))
      clear hK K
      try simp only [Act.put, List.setIfInBounds_toArray, List.set_cons_zero, List.set_cons_succ]
      refine wpAnyH_ready (rs := [15, 17]) (by kernel_rfl) (by simp) ?_
      refine AllReadyH.cons (by simp only [List.getElem?_toArray, List.getElem?_cons_zero, List.getElem?_cons_succ]; rfl) (fun K hK => ?_) ?_
      · go_simp
        refine hK.out _ _ ?_ (fun hHeld => ?_)
        · repeat (first | exact hHeld | exact HS.out | (refine VecS.alloc ?_ _) | (refine VecS.drew ?_) | (refine VecS.setCell ?_ _ _ (by show W.heap.size < _; simp; try omega)))
        clear hK K
        try simp only [Act.put, List.setIfInBounds_toArray, List.set_cons_zero, List.set_cons_succ]
        refine wpAnyH_ready (rs := [17]) (by kernel_rfl) (by simp) ?_
        refine AllReadyH.cons (by simp only [List.getElem?_toArray, List.getElem?_cons_zero, List.getElem?_cons_succ]; rfl) (fun K hK => ?_) ?_
        · go_simp
          refine hK.out _ _ ?_ (fun hHeld => ?_)
          · repeat (first | exact hHeld | exact HS.out | (refine VecS.alloc ?_ _) | (refine VecS.drew ?_) | (refine VecS.setCell ?_ _ _ (by show W.heap.size < _; simp; try omega)))
          clear hK K
          try simp only [Act.put, List.setIfInBounds_toArray, List.set_cons_zero, List.set_cons_succ]
          refine wpAnyH_ready (rs := [18]) (by kernel_rfl) (by simp) ?_
          refine AllReadyH.cons (by simp only [List.getElem?_toArray, List.getElem?_cons_zero, List.getElem?_cons_succ]; rfl) (fun K hK => ?_) ?_
          · go_simp
            refine hK.out _ _ ?_ (fun hHeld => ?_)
            · repeat (first | exact hHeld | exact HS.out | (refine VecS.alloc ?_ _) | (refine VecS.drew ?_) | (refine VecS.setCell ?_ _ _ (by show W.heap.size < _; simp; try omega)))
            clear hK K
            try simp only [Act.put, List.setIfInBounds_toArray, List.set_cons_zero, List.set_cons_succ]
            refine wpAnyH_ready (rs := [19]) (by kernel_rfl) (by simp) ?_
            refine AllReadyH.cons (by simp only [List.getElem?_toArray, List.getElem?_cons_zero, List.getElem?_cons_succ]; rfl) (fun K hK => ?_) ?_
            · go_simp
              refine hK.out _ _ ?_ (fun hHeld => ?_)
              · repeat (first | exact hHeld | exact HS.out | (refine VecS.alloc ?_ _) | (refine VecS.drew ?_) | (refine VecS.setCell ?_ _ _ (by show W.heap.size < _; simp; try omega)))
              clear hK K
              try simp only [Act.put, List.setIfInBounds_toArray, List.set_cons_zero, List.set_cons_succ]
              refine wpAnyH_ready (rs := [20]) (by kernel_rfl) (by simp) ?_
              refine AllReadyH.cons (by simp only [List.getElem?_toArray, List.getElem?_cons_zero, List.getElem?_cons_succ]; rfl) (fun K hK => ?_) ?_
              · go_simp
                refine hK.out _ _ ?_ (fun hHeld => ?_)
                · repeat (first | exact hHeld | exact HS.out | (refine VecS.alloc ?_ _) | (refine VecS.drew ?_) | (refine VecS.setCell ?_ _ _ (by show W.heap.size < _; simp; try omega)))
                clear hK K
                try simp only [Act.put, List.setIfInBounds_toArray, List.set_cons_zero, List.set_cons_succ]
                refine wpAnyH_done (by kernel_rfl) ?_ _
                go_wp2_with fail
                go_meet
                refine ⟨_, _, _, rfl, rfl, rfl, by omega, by omega, by omega, ⟨?_, ?_, ?_⟩, ⟨?_, ?_, ?_⟩, ⟨?_, ?_, ?_⟩, hHeld.box, ⟨?_, ?_, ?_⟩, fun o => ?_, hHeld.bel⟩
                all_goals first | (simp [go_sem]; done) | (simp [go_sem]; omega) | skip
              exact AllReadyH.nil
            exact AllReadyH.nil
          exact AllReadyH.nil
        exact AllReadyH.nil
      refine AllReadyH.cons (by simp only [List.getElem?_toArray, List.getElem?_cons_zero, List.getElem?_cons_succ]; rfl) (fun K hK => ?_) ?_
      · go_simp
        refine hK.out _ _ ?_ (fun hHeld => ?_)
        · repeat (first | exact hHeld | exact HS.out | (refine VecS.alloc ?_ _) | (refine VecS.drew ?_) | (refine VecS.setCell ?_ _ _ (by show W.heap.size < _; simp; try omega)))
        clear hK K
        try simp only [Act.put, List.setIfInBounds_toArray, List.set_cons_zero, List.set_cons_succ]
        refine wpAnyH_ready (rs := [15]) (by kernel_rfl) (by simp) ?_
        refine AllReadyH.cons (by simp only [List.getElem?_toArray, List.getElem?_cons_zero, List.getElem?_cons_succ]; rfl) (fun K hK => ?_) ?_
        · go_simp
          refine hK.out _ _ ?_ (fun hHeld => ?_)
          · repeat (first | exact hHeld | exact HS.out | (refine VecS.alloc ?_ _) | (refine VecS.drew ?_) | (refine VecS.setCell ?_ _ _ (by show W.heap.size < _; simp; try omega)))
          clear hK K
          try simp only [Act.put, List.setIfInBounds_toArray, List.set_cons_zero, List.set_cons_succ]
          refine wpAnyH_ready (rs := [18]) (by kernel_rfl) (by simp) ?_
          refine AllReadyH.cons (by simp only [List.getElem?_toArray, List.getElem?_cons_zero, List.getElem?_cons_succ]; rfl) (fun K hK => ?_) ?_
          · go_simp
            refine hK.out _ _ ?_ (fun hHeld => ?_)
            · repeat (first | exact hHeld | exact HS.out | (refine VecS.alloc ?_ _) | (refine VecS.drew ?_) | (refine VecS.setCell ?_ _ _ (by show W.heap.size < _; simp; try omega)))
            clear hK K
            try simp only [Act.put, List.setIfInBounds_toArray, List.set_cons_zero, List.set_cons_succ]
            refine wpAnyH_ready (rs := [19]) (by kernel_rfl) (by simp) ?_
            refine AllReadyH.cons (by simp only [List.getElem?_toArray, List.getElem?_cons_zero, List.getElem?_cons_succ]; rfl) (fun K hK => ?_) ?_
            · go_simp
              refine hK.out _ _ ?_ (fun hHeld => ?_)
              · repeat (first | exact hHeld | exact HS.out | (refine VecS.alloc ?_ _) | (refine VecS.drew ?_) | (refine VecS.setCell ?_ _ _ (by show W.heap.size < _; simp; try omega)))
              clear hK K
              try simp only [Act.put, List.setIfInBounds_toArray, List.set_cons_zero, List.set_cons_succ]
              refine wpAnyH_ready (rs := [20]) (by kernel_rfl) (by simp) ?_
              refine AllReadyH.cons (by simp only [List.getElem?_toArray, List.getElem?_cons_zero, List.getElem?_cons_succ]; rfl) (fun K hK => ?_) ?_
              · go_simp
                refine hK.out _ _ ?_ (fun hHeld => ?_)
                · repeat (first | exact hHeld | exact HS.out | (refine VecS.alloc ?_ _) | (refine VecS.drew ?_) | (refine VecS.setCell ?_ _ _ (by show W.heap.size < _; simp; try omega)))
                clear hK K
                try simp only [Act.put, List.setIfInBounds_toArray, List.set_cons_zero, List.set_cons_succ]
                refine wpAnyH_done (by kernel_rfl) ?_ _
                go_wp2_with fail
                go_meet
                refine ⟨_, _, _, rfl, rfl, rfl, by omega, by omega, by omega, ⟨?_, ?_, ?_⟩, ⟨?_, ?_, ?_⟩, ⟨?_, ?_, ?_⟩, hHeld.box, ⟨?_, ?_, ?_⟩, fun o => ?_, hHeld.bel⟩
                all_goals first | (simp [go_sem]; done) | (simp [go_sem]; omega) | skip
              exact AllReadyH.nil
            exact AllReadyH.nil
          exact AllReadyH.nil
        exact AllReadyH.nil
      exact AllReadyH.nil
    refine AllReadyH.cons (by simp only [List.getElem?_toArray, List.getElem?_cons_zero, List.getElem?_cons_succ]; rfl) (fun K hK => ?_) ?_
    · go_simp
      refine hK.out _ _ ?_ (fun hHeld => ?_)
      · repeat (first | exact hHeld | exact HS.out | (refine VecS.alloc ?_ _) | (refine VecS.drew ?_) | (refine VecS.setCell ?_ _ _ (by show W.heap.size < _; simp; try omega)))
      clear hK K
      try simp only [Act.put, List.setIfInBounds_toArray, List.set_cons_zero, List.set_cons_succ]
      refine wpAnyH_ready (rs := [15, 16]) (by kernel_rfl) (by simp) ?_
      refine AllReadyH.cons (by simp only [List.getElem?_toArray, List.getElem?_cons_zero, List.getElem?_cons_succ]; rfl) (fun K hK => ?_) ?_
      · go_simp
        refine hK.out _ _ ?_ (fun hHeld => ?_)
        · repeat (first | exact hHeld | exact HS.out | (refine VecS.alloc ?_ _) | (refine VecS.drew ?_) | (refine VecS.setCell ?_ _ _ (by show W.heap.size < _; simp; try omega)))
        clear hK K
        try simp only [Act.put, List.setIfInBounds_toArray, List.set_cons_zero, List.set_cons_succ]
        refine wpAnyH_ready (rs := [16]) (by kernel_rfl) (by simp) ?_
        refine AllReadyH.cons (by simp only [List.getElem?_toArray, List.getElem?_cons_zero, List.getElem?_cons_succ]; rfl) (fun K hK => ?_) ?_
        · go_simp
          refine hK.out _ _ ?_ (fun hHeld => ?_)
          · repeat (first | exact hHeld | exact HS.out | (refine VecS.alloc ?_ _) | (refine VecS.drew ?_) | (refine VecS.setCell ?_ _ _ (by show W.heap.size < _; simp; try omega)))
          clear hK K
          try simp only [Act.put, List.setIfInBounds_toArray, List.set_cons_zero, List.set_cons_succ]
          refine wpAnyH_ready (rs := [18]) (by kernel_rfl) (by simp) ?_
          refine AllReadyH.cons (by simp only [List.getElem?_toArray, List.getElem?_cons_zero, List.getElem?_cons_succ]; rfl) (fun K hK => ?_) ?_
          · go_simp
            refine hK.out _ _ ?_ (fun hHeld => ?_)
            · repeat (first | exact hHeld | exact HS.out | (refine VecS.alloc ?_ _) | (refine VecS.drew ?_) | (refine VecS.setCell ?_ _ _ (by show W.heap.size < _; simp; try omega)))
            clear hK K
            try simp only [Act.put, List.setIfInBounds_toArray, List.set_cons_zero, List.set_cons_succ]
            refine wpAnyH_ready (rs := [19]) (by kernel_rfl) (by simp) ?_
            refine AllReadyH.cons (by simp only [List.getElem?_toArray, List.getElem?_cons_zero, List.getElem?_cons_succ]; rfl) (fun K hK => ?_) ?_
            · go_simp
              refine hK.out _ _ ?_ (fun hHeld => ?_)
              · repeat (first | exact hHeld | exact HS.out | (refine VecS.alloc ?_ _) | (refine VecS.drew ?_) | (refine VecS.setCell ?_ _ _ (by show W.heap.size < _; simp; try omega)))
              clear hK K
              try simp only [Act.put, List.setIfInBounds_toArray, List.set_cons_zero, List.set_cons_succ]
              refine wpAnyH_ready (rs := [20]) (by kernel_rfl) (by simp) ?_
              refine AllReadyH.cons (by simp only [List.getElem?_toArray, List.getElem?_cons_zero, List.getElem?_cons_succ]; rfl) (fun K hK => ?_) ?_
              · go_simp
                refine hK.out _ _ ?_ (fun hHeld => ?_)
                · repeat (first | exact hHeld | exact HS.out | (refine VecS.alloc ?_ _) | (refine VecS.drew ?_) | (refine VecS.setCell ?_ _ _ (by show W.heap.size < _; simp; try omega)))
                clear hK K
                try simp only [Act.put, List.setIfInBounds_toArray, List.set_cons_zero, List.set_cons_succ]
                refine wpAnyH_done (by kernel_rfl) ?_ _
                go_wp2_with fail
                go_meet
                refine ⟨_, _, _, rfl, rfl, rfl, by omega, by omega, by omega, ⟨?_, ?_, ?_⟩, ⟨?_, ?_, ?_⟩, ⟨?_, ?_, ?_⟩, hHeld.box, ⟨?_, ?_, ?_⟩, fun o => ?_, hHeld.bel⟩
                all_goals first | (simp [go_sem]; done) | (simp [go_sem]; omega) | skip
              exact AllReadyH.nil
            exact AllReadyH.nil
          exact AllReadyH.nil
        exact AllReadyH.nil
      refine AllReadyH.cons (by simp only [List.getElem?_toArray, List.getElem?_cons_zero, List.getElem?_cons_succ]; rfl) (fun K hK => ?_) ?_
      · go_simp
        refine hK.out _ _ ?_ (fun hHeld => ?_)
        · repeat (first | exact hHeld | exact HS.out | (refine VecS.alloc ?_ _) | (refine VecS.drew ?_) | (refine VecS.setCell ?_ _ _ (by show W.heap.size < _; simp; try omega)))
        clear hK K
        try simp only [Act.put, List.setIfInBounds_toArray, List.set_cons_zero, List.set_cons_succ]
        refine wpAnyH_ready (rs := [15]) (by kernel_rfl) (by simp) ?_
        refine AllReadyH.cons (by simp only [List.getElem?_toArray, List.getElem?_cons_zero, List.getElem?_cons_succ]; rfl) (fun K hK => ?_) ?_
        · go_simp
          refine hK.out _ _ ?_ (fun hHeld => ?_)
          · repeat (first | exact hHeld | exact HS.out | (refine VecS.alloc ?_ _) | (refine VecS.drew ?_) | (refine VecS.setCell ?_ _ _ (by show W.heap.size < _; simp; try omega)))
          clear hK K
          try simp only [Act.put, List.setIfInBounds_toArray, List.set_cons_zero, List.set_cons_succ]
          refine wpAnyH_ready (rs := [18]) (by kernel_rfl) (by simp) ?_
          refine AllReadyH.cons (by simp only [List.getElem?_toArray, List.getElem?_cons_zero, List.getElem?_cons_succ]; rfl) (fun K hK => ?_) ?_
          · go_simp
            refine hK.out _ _ ?_ (fun hHeld => ?_)
            · repeat (first | exact hHeld | exact HS.out | (refine VecS.alloc ?_ _) | (refine VecS.drew ?_) | (refine VecS.setCell ?_ _ _ (by show W.heap.size < _; simp; try omega)))
            clear hK K
            try simp only [Act.put, List.setIfInBounds_toArray, List.set_cons_zero, List.set_cons_succ]
            refine wpAnyH_ready (rs := [19]) (by kernel_rfl) (by simp) ?_
            refine AllReadyH.cons (by simp only [List.getElem?_toArray, List.getElem?_cons_zero, List.getElem?_cons_succ]; rfl) (fun K hK => ?_) ?_
            · go_simp
              refine hK.out _ _ ?_ (fun hHeld => ?_)
              · repeat (first | exact hHeld | exact HS.out | (refine VecS.alloc ?_ _) | (refine VecS.drew ?_) | (refine VecS.setCell ?_ _ _ (by show W.heap.size < _; simp; try omega)))
              clear hK K
              try simp only [Act.put, List.setIfInBounds_toArray, List.set_cons_zero, List.set_cons_succ]
              refine wpAnyH_ready (rs := [20]) (by kernel_rfl) (by simp) ?_
              refine AllReadyH.cons (by simp only [List.getElem?_toArray, List.getElem?_cons_zero, List.getElem?_cons_succ]; rfl) (fun K hK => ?_) ?_
              · go_simp
                refine hK.out _ _ ?_ (fun hHeld => ?_)
                · repeat (first | exact hHeld | exact HS.out | (refine VecS.alloc ?_ _) | (refine VecS.drew ?_) | (refine VecS.setCell ?_ _ _ (by show W.heap.size < _; simp; try omega)))
                clear hK K
                try simp only [Act.put, List.setIfInBounds_toArray, List.set_cons_zero, List.set_cons_succ]
                refine wpAnyH_done (by kernel_rfl) ?_ _
                go_wp2_with fail
                go_meet
                refine ⟨_, _, _, rfl, rfl, rfl, by omega, by omega, by omega, ⟨?_, ?_, ?_⟩, ⟨?_, ?_, ?_⟩, ⟨?_, ?_, ?_⟩, hHeld.box, ⟨?_, ?_, ?_⟩, fun o => ?_, hHeld.bel⟩
                all_goals first | (simp [go_sem]; done) | (simp [go_sem]; omega) | skip
              exact AllReadyH.nil
            exact AllReadyH.nil
          exact AllReadyH.nil
        exact AllReadyH.nil
      exact AllReadyH.nil
    exact AllReadyH.nil

  case rest =>
    obtain ⟨g, h, i, rfl, rfl, rfl, lg, lh, li, ⟨pg, pg0, pg1⟩, ⟨ph, ph0, ph1⟩, ⟨pi, pi0, pi1⟩, bx, ⟨pr, pr0, pr1⟩, fr, hbel⟩ := hcut
    have HR := Lib.hid (⟨bx, pr0, pr1, fr, pr, hbel⟩ : VecR W _ _ _ _ _ _ _ wc)
    have HRD := Lib.hid HR.out.drew
    have f0 := fr 0
    have f1 := fr 1
    unfold At7 at bx
    have HE : Hid (∀ W, Calls Try.prog 40 #[.agg #[.int .u8 64, .int .u64 ((v : Nat) : Int)], .int .i64 0, .int .i64 ((w : Nat) : Int)] W fun e W' => e = .returned (.tuple #[.agg #[.int .u8 ((w : Nat) : Int), .int .u64 ((low w v : Nat) : Int)], .int .i64 0]) ∧ Below W.heap.size W W') := fun W => by have := extract_ok 64 v 0 w hv hw1 (by omega) W; simpa using this
    have r1 : IntKind.i64.wrap ((w : Nat) : Int) = ((w : Nat) : Int) := by rw [IntKind.wrap_i64]; omega
    clear hv hw1 hw
    have HK : Hid (∀ w' : World, VecR W (.int .u8 2) (.int .u8 ((w : Nat) : Int)) (.int .i64 k0) (.int .i64 k1) (.int .i64 k2) (.int .u64 ((n : Nat) : Int)) (.int .u8 ((l : Nat) : Int)) w' → w'.cell? ⟨W.heap.size, 1, none⟩ = some (.int .u8 ((w : Nat) : Int)) ∧ w'.cell? ⟨W.heap.size, 5, none⟩ = some (.int .u64 ((n : Nat) : Int))) := fun w' hh => by have A := hh.box; unfold At7 at A; exact ⟨A.2.1, A.2.2.2.2.2.1⟩
    have HKF : Hid (∀ (w5 : World) (u v : Value), VecR W (.int .u8 2) (.int .u8 ((w : Nat) : Int)) (.int .i64 k0) (.int .i64 k1) (.int .i64 k2) (.int .u64 ((n : Nat) : Int)) (.int .u8 ((l : Nat) : Int)) w5 → ((w5.setCell ⟨W.heap.size + 1, 0, none⟩ u).setCell ⟨W.heap.size + 1, 1, none⟩ v).cell? ⟨W.heap.size, 1, none⟩ = some (.int .u8 ((w : Nat) : Int)) ∧ ((w5.setCell ⟨W.heap.size + 1, 0, none⟩ u).setCell ⟨W.heap.size + 1, 1, none⟩ v).cell? ⟨W.heap.size, 5, none⟩ = some (.int .u64 ((n : Nat) : Int))) := fun w5 u v hh => by have A := hh.box; unfold At7 at A; exact ⟨by rw [World.cell?_setCell_far _ _ _ _ (by simp), World.cell?_setCell_far _ _ _ _ (by simp)]; exact A.2.1, by rw [World.cell?_setCell_far _ _ _ _ (by simp), World.cell?_setCell_far _ _ _ _ (by simp)]; exact A.2.2.2.2.2.1⟩
    go_wp2_with fail
    go_region_held3 (fun w' => w'.cell? ⟨W.heap.size, 1, none⟩ = some (.int .u8 ((w : Nat) : Int)) ∧ w'.cell? ⟨W.heap.size, 5, none⟩ = some (.int .u64 ((n : Nat) : Int)))
      (first | exact HK.out _ HRD.out | exact HK.out _ H5.out | exact HK.out _ H6.out | exact HKF.out _ _ _ H6.out)
      (first | (go_at_call 41; refine (HG.out _ HRD.out.b).mono ?_; rintro e w5 ⟨rfl, hb5⟩; have H5 := Lib.hid (HRD.out.call hb5)) | (go_at_call 40; refine (HE.out _).mono ?_; rintro e w6 ⟨rfl, hb6⟩; have H6 := Lib.hid (H5.out.call hb6); have g0 := H6.out.r0; have g1 := H6.out.r1; have g2 := H6.out.fr 0; have g3 := H6.out.fr 1; have g4 := H6.out.l))
    go_wp2_with fail
    exact bodyPost_ret (v := .tuple #[.agg #[.int .u8 ((w : Nat) : Int), .int .u64 ((low w v : Nat) : Int)], .int .i64 0]) (by simp [results, Try.results22, go_sem, g0, g1]) rfl ⟨rfl, (H6.out.b.setCell (Nat.le_succ _) _).setCell (Nat.le_succ _) _⟩

theorem vec_unary (w n l b : Nat) (k0 k1 k2 : Int) (w0 n0 w1 n1 w2 n2 : Nat) (W : World) (av : Value) (o : Nat) (ho : o = 3 ∨ o = 4) (hm : mayB w0 n0 = true) (HL : Hid (LookAt W b k0 k1 k2 w0 n0 w1 n1 w2 n2)) :
    Calls Try.prog 22 #[.agg #[.int .u8 ((o : Nat) : Int), .int .u8 ((w : Nat) : Int), .int .i64 k0, .int .i64 k1, .int .i64 k2, .int .u64 ((n : Nat) : Int), .int .u8 ((l : Nat) : Int)], .map (some b), av] W fun e W' => e = .returned (.tuple #[.agg #[.int .u8 ((w0 : Nat) : Int), .int .u64 ((low w0 (numU o n0) : Nat) : Int)], .int .i64 0]) ∧ Below W.heap.size W W' := by
  have HS : Hid (VecS W b (.int .u8 ((o : Nat) : Int)) (.int .u8 ((w : Nat) : Int)) (.int .u64 ((n : Nat) : Int)) (.int .u8 ((l : Nat) : Int)) k0 k1 k2 w0 n0 w1 n1 w2 n2 ((W.alloc (.cells #[.int .u8 ((o : Nat) : Int), .int .u8 ((w : Nat) : Int), .int .i64 k0, .int .i64 k1, .int .i64 k2, .int .u64 ((n : Nat) : Int), .int .u8 ((l : Nat) : Int)] 62)).alloc (.cells #[.int .u8 0, .int .u64 0] 31))) :=
    VecS.alloc ⟨At7.new W _ _ _ _ _ _ _ _, HL.out.same (Below.heap_alloc _ _ _ HL.out.1) (by simp), bel_alloc (Below.refl _ _) _, HL.out.1⟩ _
  go_enter Try.func22, Try.ntmps22
  go_upto_region 1 with fail
  go_cut [8, 9, 10] (fun s8 s9 s10 wx => ∃ g h i : Nat, s8 = .pointer (some ⟨g, 0, none⟩) ∧ s9 = .pointer (some ⟨h, 0, none⟩) ∧ s10 = .pointer (some ⟨i, 0, none⟩) ∧ W.heap.size + 1 < g ∧ W.heap.size + 1 < h ∧ W.heap.size + 1 < i ∧ At2 wx g (.int .u8 ((w0 : Nat) : Int)) (.int .u64 ((n0 : Nat) : Int)) ∧ At2 wx h (.int .u8 ((w1 : Nat) : Int)) (.int .u64 ((n1 : Nat) : Int)) ∧ At2 wx i (.int .u8 ((w2 : Nat) : Int)) (.int .u64 ((n2 : Nat) : Int)) ∧ At7 wx W.heap.size (.int .u8 ((o : Nat) : Int)) (.int .u8 ((w : Nat) : Int)) (.int .i64 k0) (.int .i64 k1) (.int .i64 k2) (.int .u64 ((n : Nat) : Int)) (.int .u8 ((l : Nat) : Int)) ∧ At2 wx (W.heap.size + 1) (.int .u8 0) (.int .u64 0) ∧ (∀ o, wx.frozen? ⟨W.heap.size + 1, o, none⟩ = false) ∧ Below W.heap.size W wx)
  case first =>
    refine wp_region_held_drew (S := fun w' => VecS W b (.int .u8 ((o : Nat) : Int)) (.int .u8 ((w : Nat) : Int)) (.int .u64 ((n : Nat) : Int)) (.int .u8 ((l : Nat) : Int)) k0 k1 k2 w0 n0 w1 n1 w2 n2 w') (by kernel_rfl) HS.out.drew (fun hHeld => ?_)
    refine wpAnyH_take (i := 0) (v := .map (some b)) (by simp only [List.getElem?_toArray, List.getElem?_cons_zero]; rfl) (by kernel_rfl) (by kernel_rfl) (by kernel_rfl) (by exact fun _ _ _ h => h) (Or.inl ⟨by rfl, ?_⟩) hHeld ?_
    · intro w' hSw
      go_simp
    simp only [Act.put, List.setIfInBounds_toArray, List.set_cons_zero, List.set_cons_succ]
    refine wpAnyH_take (i := 1) (v := .pointer (some ⟨W.heap.size, 2, none⟩)) (by simp only [List.getElem?_toArray, List.getElem?_cons_zero, List.getElem?_cons_succ]; rfl) (by kernel_rfl) (by kernel_rfl) (by kernel_rfl) (by exact fun _ _ _ h => h) (Or.inl ⟨by rfl, ?_⟩) hHeld ?_
    · intro w' hSw
      go_simp
    simp only [Act.put, List.setIfInBounds_toArray, List.set_cons_zero, List.set_cons_succ]
    refine wpAnyH_take (i := 2) (v := .pointer (some ⟨W.heap.size, 2, none⟩)) (by simp only [List.getElem?_toArray, List.getElem?_cons_zero, List.getElem?_cons_succ]; rfl) (by kernel_rfl) (by kernel_rfl) (by kernel_rfl) (by exact fun _ _ _ h => h) (Or.inl ⟨by rfl, ?_⟩) hHeld ?_
    · intro w' hSw
      go_simp
    simp only [Act.put, List.setIfInBounds_toArray, List.set_cons_zero, List.set_cons_succ]
    refine wpAnyH_take (i := 3) (v := .int .i64 k0) (by simp only [List.getElem?_toArray, List.getElem?_cons_zero, List.getElem?_cons_succ]; rfl) (by kernel_rfl) (by kernel_rfl) (by kernel_rfl) (by exact fun _ _ _ h => h) (Or.inl ⟨by rfl, ?_⟩) hHeld ?_
    · intro w' hSw
      obtain ⟨f0, f1, f2, f3, f4, f5, f6, f7, f8, f9⟩ := hSw.facts; have lW := hSw.box.lt; go_simp
    simp only [Act.put, List.setIfInBounds_toArray, List.set_cons_zero, List.set_cons_succ]
    refine wpAnyH_take (i := 4) (v := .agg #[.int .u8 ((w0 : Nat) : Int), .int .u64 ((n0 : Nat) : Int)]) (by simp only [List.getElem?_toArray, List.getElem?_cons_zero, List.getElem?_cons_succ]; rfl) (by kernel_rfl) (by kernel_rfl) (by kernel_rfl) (by exact fun _ _ _ h => h) (Or.inl ⟨by rfl, ?_⟩) hHeld ?_
    · intro w' hSw
      obtain ⟨f0, f1, f2, f3, f4, f5, f6, f7, f8, f9⟩ := hSw.facts; have lW := hSw.box.lt; go_simp
    simp only [Act.put, List.setIfInBounds_toArray, List.set_cons_zero, List.set_cons_succ]
    refine wpAnyH_take (i := 5) (v := .map (some b)) (by simp only [List.getElem?_toArray, List.getElem?_cons_zero, List.getElem?_cons_succ]; rfl) (by kernel_rfl) (by kernel_rfl) (by kernel_rfl) (by exact fun _ _ _ h => h) (Or.inl ⟨by rfl, ?_⟩) hHeld ?_
    · intro w' hSw
      go_simp
    simp only [Act.put, List.setIfInBounds_toArray, List.set_cons_zero, List.set_cons_succ]
    refine wpAnyH_take (i := 6) (v := .pointer (some ⟨W.heap.size, 2, none⟩)) (by simp only [List.getElem?_toArray, List.getElem?_cons_zero, List.getElem?_cons_succ]; rfl) (by kernel_rfl) (by kernel_rfl) (by kernel_rfl) (by exact fun _ _ _ h => h) (Or.inl ⟨by rfl, ?_⟩) hHeld ?_
    · intro w' hSw
      go_simp
    simp only [Act.put, List.setIfInBounds_toArray, List.set_cons_zero, List.set_cons_succ]
    refine wpAnyH_take (i := 7) (v := .pointer (some ⟨W.heap.size, 3, none⟩)) (by simp only [List.getElem?_toArray, List.getElem?_cons_zero, List.getElem?_cons_succ]; rfl) (by kernel_rfl) (by kernel_rfl) (by kernel_rfl) (by exact fun _ _ _ h => h) (Or.inl ⟨by rfl, ?_⟩) hHeld ?_
    · intro w' hSw
      go_simp
    simp only [Act.put, List.setIfInBounds_toArray, List.set_cons_zero, List.set_cons_succ]
    refine wpAnyH_take (i := 8) (v := .int .i64 k1) (by simp only [List.getElem?_toArray, List.getElem?_cons_zero, List.getElem?_cons_succ]; rfl) (by kernel_rfl) (by kernel_rfl) (by kernel_rfl) (by exact fun _ _ _ h => h) (Or.inl ⟨by rfl, ?_⟩) hHeld ?_
    · intro w' hSw
      obtain ⟨f0, f1, f2, f3, f4, f5, f6, f7, f8, f9⟩ := hSw.facts; have lW := hSw.box.lt; go_simp
    simp only [Act.put, List.setIfInBounds_toArray, List.set_cons_zero, List.set_cons_succ]
    refine wpAnyH_take (i := 9) (v := .agg #[.int .u8 ((w1 : Nat) : Int), .int .u64 ((n1 : Nat) : Int)]) (by simp only [List.getElem?_toArray, List.getElem?_cons_zero, List.getElem?_cons_succ]; rfl) (by kernel_rfl) (by kernel_rfl) (by kernel_rfl) (by exact fun _ _ _ h => h) (Or.inl ⟨by rfl, ?_⟩) hHeld ?_
    · intro w' hSw
      obtain ⟨f0, f1, f2, f3, f4, f5, f6, f7, f8, f9⟩ := hSw.facts; have lW := hSw.box.lt; go_simp
    simp only [Act.put, List.setIfInBounds_toArray, List.set_cons_zero, List.set_cons_succ]
    refine wpAnyH_take (i := 10) (v := .map (some b)) (by simp only [List.getElem?_toArray, List.getElem?_cons_zero, List.getElem?_cons_succ]; rfl) (by kernel_rfl) (by kernel_rfl) (by kernel_rfl) (by exact fun _ _ _ h => h) (Or.inl ⟨by rfl, ?_⟩) hHeld ?_
    · intro w' hSw
      go_simp
    simp only [Act.put, List.setIfInBounds_toArray, List.set_cons_zero, List.set_cons_succ]
    refine wpAnyH_take (i := 11) (v := .pointer (some ⟨W.heap.size, 2, none⟩)) (by simp only [List.getElem?_toArray, List.getElem?_cons_zero, List.getElem?_cons_succ]; rfl) (by kernel_rfl) (by kernel_rfl) (by kernel_rfl) (by exact fun _ _ _ h => h) (Or.inl ⟨by rfl, ?_⟩) hHeld ?_
    · intro w' hSw
      go_simp
    simp only [Act.put, List.setIfInBounds_toArray, List.set_cons_zero, List.set_cons_succ]
    refine wpAnyH_take (i := 12) (v := .pointer (some ⟨W.heap.size, 4, none⟩)) (by simp only [List.getElem?_toArray, List.getElem?_cons_zero, List.getElem?_cons_succ]; rfl) (by kernel_rfl) (by kernel_rfl) (by kernel_rfl) (by exact fun _ _ _ h => h) (Or.inl ⟨by rfl, ?_⟩) hHeld ?_
    · intro w' hSw
      go_simp
    simp only [Act.put, List.setIfInBounds_toArray, List.set_cons_zero, List.set_cons_succ]
    refine wpAnyH_take (i := 13) (v := .int .i64 k2) (by simp only [List.getElem?_toArray, List.getElem?_cons_zero, List.getElem?_cons_succ]; rfl) (by kernel_rfl) (by kernel_rfl) (by kernel_rfl) (by exact fun _ _ _ h => h) (Or.inl ⟨by rfl, ?_⟩) hHeld ?_
    · intro w' hSw
      obtain ⟨f0, f1, f2, f3, f4, f5, f6, f7, f8, f9⟩ := hSw.facts; have lW := hSw.box.lt; go_simp
    simp only [Act.put, List.setIfInBounds_toArray, List.set_cons_zero, List.set_cons_succ]
    refine wpAnyH_take (i := 14) (v := .agg #[.int .u8 ((w2 : Nat) : Int), .int .u64 ((n2 : Nat) : Int)]) (by simp only [List.getElem?_toArray, List.getElem?_cons_zero, List.getElem?_cons_succ]; rfl) (by kernel_rfl) (by kernel_rfl) (by kernel_rfl) (by exact fun _ _ _ h => h) (Or.inl ⟨by rfl, ?_⟩) hHeld ?_
    · intro w' hSw
      obtain ⟨f0, f1, f2, f3, f4, f5, f6, f7, f8, f9⟩ := hSw.facts; have lW := hSw.box.lt; go_simp
    simp only [Act.put, List.setIfInBounds_toArray, List.set_cons_zero, List.set_cons_succ]
    refine wpAnyH_ready (rs := [15, 16, 17]) (by kernel_rfl) (by simp) ?_
    refine AllReadyH.cons (by simp only [List.getElem?_toArray, List.getElem?_cons_zero, List.getElem?_cons_succ]; rfl) (fun K hK => ?_) ?_
    · go_simp
      refine hK.out _ _ ?_ (fun hHeld => ?_)
      · repeat (first | exact hHeld | exact HS.out | (refine VecS.alloc ?_ _) | (refine VecS.drew ?_) | (refine VecS.setCell ?_ _ _ (by show W.heap.size < _; simp; try omega)))
      clear hK K
      try simp only [Act.put, List.setIfInBounds_toArray, List.set_cons_zero, List.set_cons_succ]
      refine wpAnyH_ready (rs := [16, 17]) (by kernel_rfl) (by simp) ?_
      refine AllReadyH.cons (by simp only [List.getElem?_toArray, List.getElem?_cons_zero, List.getElem?_cons_succ]; rfl) (fun K hK => ?_) ?_
      · go_simp
        refine hK.out _ _ ?_ (fun hHeld => ?_)
        · repeat (first | exact hHeld | exact HS.out | (refine VecS.alloc ?_ _) | (refine VecS.drew ?_) | (refine VecS.setCell ?_ _ _ (by show W.heap.size < _; simp; try omega)))
        clear hK K
        try simp only [Act.put, List.setIfInBounds_toArray, List.set_cons_zero, List.set_cons_succ]
        refine wpAnyH_ready (rs := [17]) (by kernel_rfl) (by simp) ?_
        refine AllReadyH.cons (by simp only [List.getElem?_toArray, List.getElem?_cons_zero, List.getElem?_cons_succ]; rfl) (fun K hK => ?_) ?_
        · go_simp
          refine hK.out _ _ ?_ (fun hHeld => ?_)
          · repeat (first | exact hHeld | exact HS.out | (refine VecS.alloc ?_ _) | (refine VecS.drew ?_) | (refine VecS.setCell ?_ _ _ (by show W.heap.size < _; simp; try omega)))
          clear hK K
          try simp only [Act.put, List.setIfInBounds_toArray, List.set_cons_zero, List.set_cons_succ]
          refine wpAnyH_ready (rs := [18]) (by kernel_rfl) (by simp) ?_
          refine AllReadyH.cons (by simp only [List.getElem?_toArray, List.getElem?_cons_zero, List.getElem?_cons_succ]; rfl) (fun K hK => ?_) ?_
          · go_simp
            refine hK.out _ _ ?_ (fun hHeld => ?_)
            · repeat (first | exact hHeld | exact HS.out | (refine VecS.alloc ?_ _) | (refine VecS.drew ?_) | (refine VecS.setCell ?_ _ _ (by show W.heap.size < _; simp; try omega)))
            clear hK K
            try simp only [Act.put, List.setIfInBounds_toArray, List.set_cons_zero, List.set_cons_succ]
            refine wpAnyH_ready (rs := [19]) (by kernel_rfl) (by simp) ?_
            refine AllReadyH.cons (by simp only [List.getElem?_toArray, List.getElem?_cons_zero, List.getElem?_cons_succ]; rfl) (fun K hK => ?_) ?_
            · go_simp
              refine hK.out _ _ ?_ (fun hHeld => ?_)
              · repeat (first | exact hHeld | exact HS.out | (refine VecS.alloc ?_ _) | (refine VecS.drew ?_) | (refine VecS.setCell ?_ _ _ (by show W.heap.size < _; simp; try omega)))
              clear hK K
              try simp only [Act.put, List.setIfInBounds_toArray, List.set_cons_zero, List.set_cons_succ]
              refine wpAnyH_ready (rs := [20]) (by kernel_rfl) (by simp) ?_
              refine AllReadyH.cons (by simp only [List.getElem?_toArray, List.getElem?_cons_zero, List.getElem?_cons_succ]; rfl) (fun K hK => ?_) ?_
              · go_simp
                refine hK.out _ _ ?_ (fun hHeld => ?_)
                · repeat (first | exact hHeld | exact HS.out | (refine VecS.alloc ?_ _) | (refine VecS.drew ?_) | (refine VecS.setCell ?_ _ _ (by show W.heap.size < _; simp; try omega)))
                clear hK K
                try simp only [Act.put, List.setIfInBounds_toArray, List.set_cons_zero, List.set_cons_succ]
                refine wpAnyH_done (by kernel_rfl) ?_ _
                go_wp2_with fail
                go_meet
                refine ⟨_, _, _, rfl, rfl, rfl, by omega, by omega, by omega, ⟨?_, ?_, ?_⟩, ⟨?_, ?_, ?_⟩, ⟨?_, ?_, ?_⟩, hHeld.box, ⟨?_, ?_, ?_⟩, fun o => ?_, hHeld.bel⟩
                all_goals first | (simp [go_sem]; done) | (simp [go_sem]; omega) | skip
              exact AllReadyH.nil
            exact AllReadyH.nil
          exact AllReadyH.nil
        exact AllReadyH.nil
      refine AllReadyH.cons (by simp only [List.getElem?_toArray, List.getElem?_cons_zero, List.getElem?_cons_succ]; rfl) (fun K hK => ?_) ?_
      · go_simp
        refine hK.out _ _ ?_ (fun hHeld => ?_)
        · repeat (first | exact hHeld | exact HS.out | (refine VecS.alloc ?_ _) | (refine VecS.drew ?_) | (refine VecS.setCell ?_ _ _ (by show W.heap.size < _; simp; try omega)))
        clear hK K
        try simp only [Act.put, List.setIfInBounds_toArray, List.set_cons_zero, List.set_cons_succ]
        refine wpAnyH_ready (rs := [16]) (by kernel_rfl) (by simp) ?_
        refine AllReadyH.cons (by simp only [List.getElem?_toArray, List.getElem?_cons_zero, List.getElem?_cons_succ]; rfl) (fun K hK => ?_) ?_
        · go_simp
          refine hK.out _ _ ?_ (fun hHeld => ?_)
          · repeat (first | exact hHeld | exact HS.out | (refine VecS.alloc ?_ _) | (refine VecS.drew ?_) | (refine VecS.setCell ?_ _ _ (by show W.heap.size < _; simp; try omega)))
          clear hK K
          try simp only [Act.put, List.setIfInBounds_toArray, List.set_cons_zero, List.set_cons_succ]
          refine wpAnyH_ready (rs := [18]) (by kernel_rfl) (by simp) ?_
          refine AllReadyH.cons (by simp only [List.getElem?_toArray, List.getElem?_cons_zero, List.getElem?_cons_succ]; rfl) (fun K hK => ?_) ?_
          · go_simp
            refine hK.out _ _ ?_ (fun hHeld => ?_)
            · repeat (first | exact hHeld | exact HS.out | (refine VecS.alloc ?_ _) | (refine VecS.drew ?_) | (refine VecS.setCell ?_ _ _ (by show W.heap.size < _; simp; try omega)))
            clear hK K
            try simp only [Act.put, List.setIfInBounds_toArray, List.set_cons_zero, List.set_cons_succ]
            refine wpAnyH_ready (rs := [19]) (by kernel_rfl) (by simp) ?_
            refine AllReadyH.cons (by simp only [List.getElem?_toArray, List.getElem?_cons_zero, List.getElem?_cons_succ]; rfl) (fun K hK => ?_) ?_
            · go_simp
              refine hK.out _ _ ?_ (fun hHeld => ?_)
              · repeat (first | exact hHeld | exact HS.out | (refine VecS.alloc ?_ _) | (refine VecS.drew ?_) | (refine VecS.setCell ?_ _ _ (by show W.heap.size < _; simp; try omega)))
              clear hK K
              try simp only [Act.put, List.setIfInBounds_toArray, List.set_cons_zero, List.set_cons_succ]
              refine wpAnyH_ready (rs := [20]) (by kernel_rfl) (by simp) ?_
              refine AllReadyH.cons (by simp only [List.getElem?_toArray, List.getElem?_cons_zero, List.getElem?_cons_succ]; rfl) (fun K hK => ?_) ?_
              · go_simp
                refine hK.out _ _ ?_ (fun hHeld => ?_)
                · repeat (first | exact hHeld | exact HS.out | (refine VecS.alloc ?_ _) | (refine VecS.drew ?_) | (refine VecS.setCell ?_ _ _ (by show W.heap.size < _; simp; try omega)))
                clear hK K
                try simp only [Act.put, List.setIfInBounds_toArray, List.set_cons_zero, List.set_cons_succ]
                refine wpAnyH_done (by kernel_rfl) ?_ _
                go_wp2_with fail
                go_meet
                refine ⟨_, _, _, rfl, rfl, rfl, by omega, by omega, by omega, ⟨?_, ?_, ?_⟩, ⟨?_, ?_, ?_⟩, ⟨?_, ?_, ?_⟩, hHeld.box, ⟨?_, ?_, ?_⟩, fun o => ?_, hHeld.bel⟩
                all_goals first | (simp [go_sem]; done) | (simp [go_sem]; omega) | skip
              exact AllReadyH.nil
            exact AllReadyH.nil
          exact AllReadyH.nil
        exact AllReadyH.nil
      exact AllReadyH.nil
    refine AllReadyH.cons (by simp only [List.getElem?_toArray, List.getElem?_cons_zero, List.getElem?_cons_succ]; rfl) (fun K hK => ?_) ?_
    · go_simp
      refine hK.out _ _ ?_ (fun hHeld => ?_)
      · repeat (first | exact hHeld | exact HS.out | (refine VecS.alloc ?_ _) | (refine VecS.drew ?_) | (refine VecS.setCell ?_ _ _ (by show W.heap.size < _; simp; try omega)))
      clear hK K
      try simp only [Act.put, List.setIfInBounds_toArray, List.set_cons_zero, List.set_cons_succ]
      refine wpAnyH_ready (rs := [15, 17]) (by kernel_rfl) (by simp) ?_
      refine AllReadyH.cons (by simp only [List.getElem?_toArray, List.getElem?_cons_zero, List.getElem?_cons_succ]; rfl) (fun K hK => ?_) ?_
      · go_simp
        refine hK.out _ _ ?_ (fun hHeld => ?_)
        · repeat (first | exact hHeld | exact HS.out | (refine VecS.alloc ?_ _) | (refine VecS.drew ?_) | (refine VecS.setCell ?_ _ _ (by show W.heap.size < _; simp; try omega)))
        clear hK K
        try simp only [Act.put, List.setIfInBounds_toArray, List.set_cons_zero, List.set_cons_succ]
        refine wpAnyH_ready (rs := [17]) (by kernel_rfl) (by simp) ?_
        refine AllReadyH.cons (by simp only [List.getElem?_toArray, List.getElem?_cons_zero, List.getElem?_cons_succ]; rfl) (fun K hK => ?_) ?_
        · go_simp
          refine hK.out _ _ ?_ (fun hHeld => ?_)
          · repeat (first | exact hHeld | exact HS.out | (refine VecS.alloc ?_ _) | (refine VecS.drew ?_) | (refine VecS.setCell ?_ _ _ (by show W.heap.size < _; simp; try omega)))
          clear hK K
          try simp only [Act.put, List.setIfInBounds_toArray, List.set_cons_zero, List.set_cons_succ]
          refine wpAnyH_ready (rs := [18]) (by kernel_rfl) (by simp) ?_
          refine AllReadyH.cons (by simp only [List.getElem?_toArray, List.getElem?_cons_zero, List.getElem?_cons_succ]; rfl) (fun K hK => ?_) ?_
          · go_simp
            refine hK.out _ _ ?_ (fun hHeld => ?_)
            · repeat (first | exact hHeld | exact HS.out | (refine VecS.alloc ?_ _) | (refine VecS.drew ?_) | (refine VecS.setCell ?_ _ _ (by show W.heap.size < _; simp; try omega)))
            clear hK K
            try simp only [Act.put, List.setIfInBounds_toArray, List.set_cons_zero, List.set_cons_succ]
            refine wpAnyH_ready (rs := [19]) (by kernel_rfl) (by simp) ?_
            refine AllReadyH.cons (by simp only [List.getElem?_toArray, List.getElem?_cons_zero, List.getElem?_cons_succ]; rfl) (fun K hK => ?_) ?_
            · go_simp
              refine hK.out _ _ ?_ (fun hHeld => ?_)
              · repeat (first | exact hHeld | exact HS.out | (refine VecS.alloc ?_ _) | (refine VecS.drew ?_) | (refine VecS.setCell ?_ _ _ (by show W.heap.size < _; simp; try omega)))
              clear hK K
              try simp only [Act.put, List.setIfInBounds_toArray, List.set_cons_zero, List.set_cons_succ]
              refine wpAnyH_ready (rs := [20]) (by kernel_rfl) (by simp) ?_
              refine AllReadyH.cons (by simp only [List.getElem?_toArray, List.getElem?_cons_zero, List.getElem?_cons_succ]; rfl) (fun K hK => ?_) ?_
              · go_simp
                refine hK.out _ _ ?_ (fun hHeld => ?_)
                · repeat (first | exact hHeld | exact HS.out | (refine VecS.alloc ?_ _) | (refine VecS.drew ?_) | (refine VecS.setCell ?_ _ _ (by show W.heap.size < _; simp; try omega)))
                clear hK K
                try simp only [Act.put, List.setIfInBounds_toArray, List.set_cons_zero, List.set_cons_succ]
                refine wpAnyH_done (by kernel_rfl) ?_ _
                go_wp2_with fail
                go_meet
                refine ⟨_, _, _, rfl, rfl, rfl, by omega, by omega, by omega, ⟨?_, ?_, ?_⟩, ⟨?_, ?_, ?_⟩, ⟨?_, ?_, ?_⟩, hHeld.box, ⟨?_, ?_, ?_⟩, fun o => ?_, hHeld.bel⟩
                all_goals first | (simp [go_sem]; done) | (simp [go_sem]; omega) | skip
              exact AllReadyH.nil
            exact AllReadyH.nil
          exact AllReadyH.nil
        exact AllReadyH.nil
      refine AllReadyH.cons (by simp only [List.getElem?_toArray, List.getElem?_cons_zero, List.getElem?_cons_succ]; rfl) (fun K hK => ?_) ?_
      · go_simp
        refine hK.out _ _ ?_ (fun hHeld => ?_)
        · repeat (first | exact hHeld | exact HS.out | (refine VecS.alloc ?_ _) | (refine VecS.drew ?_) | (refine VecS.setCell ?_ _ _ (by show W.heap.size < _; simp; try omega)))
        clear hK K
        try simp only [Act.put, List.setIfInBounds_toArray, List.set_cons_zero, List.set_cons_succ]
        refine wpAnyH_ready (rs := [15]) (by kernel_rfl) (by simp) ?_
        refine AllReadyH.cons (by simp only [List.getElem?_toArray, List.getElem?_cons_zero, List.getElem?_cons_succ]; rfl) (fun K hK => ?_) ?_
        · go_simp
          refine hK.out _ _ ?_ (fun hHeld => ?_)
          · repeat (first | exact hHeld | exact HS.out | (refine VecS.alloc ?_ _) | (refine VecS.drew ?_) | (refine VecS.setCell ?_ _ _ (by show W.heap.size < _; simp; try omega)))
          clear hK K
          try simp only [Act.put, List.setIfInBounds_toArray, List.set_cons_zero, List.set_cons_succ]
          refine wpAnyH_ready (rs := [18]) (by kernel_rfl) (by simp) ?_
          refine AllReadyH.cons (by simp only [List.getElem?_toArray, List.getElem?_cons_zero, List.getElem?_cons_succ]; rfl) (fun K hK => ?_) ?_
          · go_simp
            refine hK.out _ _ ?_ (fun hHeld => ?_)
            · repeat (first | exact hHeld | exact HS.out | (refine VecS.alloc ?_ _) | (refine VecS.drew ?_) | (refine VecS.setCell ?_ _ _ (by show W.heap.size < _; simp; try omega)))
            clear hK K
            try simp only [Act.put, List.setIfInBounds_toArray, List.set_cons_zero, List.set_cons_succ]
            refine wpAnyH_ready (rs := [19]) (by kernel_rfl) (by simp) ?_
            refine AllReadyH.cons (by simp only [List.getElem?_toArray, List.getElem?_cons_zero, List.getElem?_cons_succ]; rfl) (fun K hK => ?_) ?_
            · go_simp
              refine hK.out _ _ ?_ (fun hHeld => ?_)
              · repeat (first | exact hHeld | exact HS.out | (refine VecS.alloc ?_ _) | (refine VecS.drew ?_) | (refine VecS.setCell ?_ _ _ (by show W.heap.size < _; simp; try omega)))
              clear hK K
              try simp only [Act.put, List.setIfInBounds_toArray, List.set_cons_zero, List.set_cons_succ]
              refine wpAnyH_ready (rs := [20]) (by kernel_rfl) (by simp) ?_
              refine AllReadyH.cons (by simp only [List.getElem?_toArray, List.getElem?_cons_zero, List.getElem?_cons_succ]; rfl) (fun K hK => ?_) ?_
              · go_simp
                refine hK.out _ _ ?_ (fun hHeld => ?_)
                · repeat (first | exact hHeld | exact HS.out | (refine VecS.alloc ?_ _) | (refine VecS.drew ?_) | (refine VecS.setCell ?_ _ _ (by show W.heap.size < _; simp; try omega)))
                clear hK K
                try simp only [Act.put, List.setIfInBounds_toArray, List.set_cons_zero, List.set_cons_succ]
                refine wpAnyH_done (by kernel_rfl) ?_ _
                go_wp2_with fail
                go_meet
                refine ⟨_, _, _, rfl, rfl, rfl, by omega, by omega, by omega, ⟨?_, ?_, ?_⟩, ⟨?_, ?_, ?_⟩, ⟨?_, ?_, ?_⟩, hHeld.box, ⟨?_, ?_, ?_⟩, fun o => ?_, hHeld.bel⟩
                all_goals first | (simp [go_sem]; done) | (simp [go_sem]; omega) | skip
              exact AllReadyH.nil
            exact AllReadyH.nil
          exact AllReadyH.nil
        exact AllReadyH.nil
      exact AllReadyH.nil
    refine AllReadyH.cons (by simp only [List.getElem?_toArray, List.getElem?_cons_zero, List.getElem?_cons_succ]; rfl) (fun K hK => ?_) ?_
    · go_simp
      refine hK.out _ _ ?_ (fun hHeld => ?_)
      · repeat (first | exact hHeld | exact HS.out | (refine VecS.alloc ?_ _) | (refine VecS.drew ?_) | (refine VecS.setCell ?_ _ _ (by show W.heap.size < _; simp; try omega)))
      clear hK K
      try simp only [Act.put, List.setIfInBounds_toArray, List.set_cons_zero, List.set_cons_succ]
      refine wpAnyH_ready (rs := [15, 16]) (by kernel_rfl) (by simp) ?_
      refine AllReadyH.cons (by simp only [List.getElem?_toArray, List.getElem?_cons_zero, List.getElem?_cons_succ]; rfl) (fun K hK => ?_) ?_
      · go_simp
        refine hK.out _ _ ?_ (fun hHeld => ?_)
        · repeat (first | exact hHeld | exact HS.out | (refine VecS.alloc ?_ _) | (refine VecS.drew ?_) | (refine VecS.setCell ?_ _ _ (by show W.heap.size < _; simp; try omega)))
        clear hK K
        try simp only [Act.put, List.setIfInBounds_toArray, List.set_cons_zero, List.set_cons_succ]
        refine wpAnyH_ready (rs := [16]) (by kernel_rfl) (by simp) ?_
        refine AllReadyH.cons (by simp only [List.getElem?_toArray, List.getElem?_cons_zero, List.getElem?_cons_succ]; rfl) (fun K hK => ?_) ?_
        · go_simp
          refine hK.out _ _ ?_ (fun hHeld => ?_)
          · repeat (first | exact hHeld | exact HS.out | (refine VecS.alloc ?_ _) | (refine VecS.drew ?_) | (refine VecS.setCell ?_ _ _ (by show W.heap.size < _; simp; try omega)))
          clear hK K
          try simp only [Act.put, List.setIfInBounds_toArray, List.set_cons_zero, List.set_cons_succ]
          refine wpAnyH_ready (rs := [18]) (by kernel_rfl) (by simp) ?_
          refine AllReadyH.cons (by simp only [List.getElem?_toArray, List.getElem?_cons_zero, List.getElem?_cons_succ]; rfl) (fun K hK => ?_) ?_
          · go_simp
            refine hK.out _ _ ?_ (fun hHeld => ?_)
            · repeat (first | exact hHeld | exact HS.out | (refine VecS.alloc ?_ _) | (refine VecS.drew ?_) | (refine VecS.setCell ?_ _ _ (by show W.heap.size < _; simp; try omega)))
            clear hK K
            try simp only [Act.put, List.setIfInBounds_toArray, List.set_cons_zero, List.set_cons_succ]
            refine wpAnyH_ready (rs := [19]) (by kernel_rfl) (by simp) ?_
            refine AllReadyH.cons (by simp only [List.getElem?_toArray, List.getElem?_cons_zero, List.getElem?_cons_succ]; rfl) (fun K hK => ?_) ?_
            · go_simp
              refine hK.out _ _ ?_ (fun hHeld => ?_)
              · repeat (first | exact hHeld | exact HS.out | (refine VecS.alloc ?_ _) | (refine VecS.drew ?_) | (refine VecS.setCell ?_ _ _ (by show W.heap.size < _; simp; try omega)))
              clear hK K
              try simp only [Act.put, List.setIfInBounds_toArray, List.set_cons_zero, List.set_cons_succ]
              refine wpAnyH_ready (rs := [20]) (by kernel_rfl) (by simp) ?_
              refine AllReadyH.cons (by simp only [List.getElem?_toArray, List.getElem?_cons_zero, List.getElem?_cons_succ]; rfl) (fun K hK => ?_) ?_
              · go_simp
                refine hK.out _ _ ?_ (fun hHeld => ?_)
                · repeat (first | exact hHeld | exact HS.out | (refine VecS.alloc ?_ _) | (refine VecS.drew ?_) | (refine VecS.setCell ?_ _ _ (by show W.heap.size < _; simp; try omega)))
                clear hK K
                try simp only [Act.put, List.setIfInBounds_toArray, List.set_cons_zero, List.set_cons_succ]
                refine wpAnyH_done (by kernel_rfl) ?_ _
                go_wp2_with fail
                go_meet
                refine ⟨_, _, _, rfl, rfl, rfl, by omega, by omega, by omega, ⟨?_, ?_, ?_⟩, ⟨?_, ?_, ?_⟩, ⟨?_, ?_, ?_⟩, hHeld.box, ⟨?_, ?_, ?_⟩, fun o => ?_, hHeld.bel⟩
                all_goals first | (simp [go_sem]; done) | (simp [go_sem]; omega) | skip
              exact AllReadyH.nil
            exact AllReadyH.nil
          exact AllReadyH.nil
        exact AllReadyH.nil
      refine AllReadyH.cons (by simp only [List.getElem?_toArray, List.getElem?_cons_zero, List.getElem?_cons_succ]; rfl) (fun K hK => ?_) ?_
      · go_simp
        refine hK.out _ _ ?_ (fun hHeld => ?_)
        · repeat (first | exact hHeld | exact HS.out | (refine VecS.alloc ?_ _) | (refine VecS.drew ?_) | (refine VecS.setCell ?_ _ _ (by show W.heap.size < _; simp; try omega)))
        clear hK K
        try simp only [Act.put, List.setIfInBounds_toArray, List.set_cons_zero, List.set_cons_succ]
        refine wpAnyH_ready (rs := [15]) (by kernel_rfl) (by simp) ?_
        refine AllReadyH.cons (by simp only [List.getElem?_toArray, List.getElem?_cons_zero, List.getElem?_cons_succ]; rfl) (fun K hK => ?_) ?_
        · go_simp
          refine hK.out _ _ ?_ (fun hHeld => ?_)
          · repeat (first | exact hHeld | exact HS.out | (refine VecS.alloc ?_ _) | (refine VecS.drew ?_) | (refine VecS.setCell ?_ _ _ (by show W.heap.size < _; simp; try omega)))
          clear hK K
          try simp only [Act.put, List.setIfInBounds_toArray, List.set_cons_zero, List.set_cons_succ]
          refine wpAnyH_ready (rs := [18]) (by kernel_rfl) (by simp) ?_
          refine AllReadyH.cons (by simp only [List.getElem?_toArray, List.getElem?_cons_zero, List.getElem?_cons_succ]; rfl) (fun K hK => ?_) ?_
          · go_simp
            refine hK.out _ _ ?_ (fun hHeld => ?_)
            · repeat (first | exact hHeld | exact HS.out | (refine VecS.alloc ?_ _) | (refine VecS.drew ?_) | (refine VecS.setCell ?_ _ _ (by show W.heap.size < _; simp; try omega)))
            clear hK K
            try simp only [Act.put, List.setIfInBounds_toArray, List.set_cons_zero, List.set_cons_succ]
            refine wpAnyH_ready (rs := [19]) (by kernel_rfl) (by simp) ?_
            refine AllReadyH.cons (by simp only [List.getElem?_toArray, List.getElem?_cons_zero, List.getElem?_cons_succ]; rfl) (fun K hK => ?_) ?_
            · go_simp
              refine hK.out _ _ ?_ (fun hHeld => ?_)
              · repeat (first | exact hHeld | exact HS.out | (refine VecS.alloc ?_ _) | (refine VecS.drew ?_) | (refine VecS.setCell ?_ _ _ (by show W.heap.size < _; simp; try omega)))
              clear hK K
              try simp only [Act.put, List.setIfInBounds_toArray, List.set_cons_zero, List.set_cons_succ]
              refine wpAnyH_ready (rs := [20]) (by kernel_rfl) (by simp) ?_
              refine AllReadyH.cons (by simp only [List.getElem?_toArray, List.getElem?_cons_zero, List.getElem?_cons_succ]; rfl) (fun K hK => ?_) ?_
              · go_simp
                refine hK.out _ _ ?_ (fun hHeld => ?_)
                · repeat (first | exact hHeld | exact HS.out | (refine VecS.alloc ?_ _) | (refine VecS.drew ?_) | (refine VecS.setCell ?_ _ _ (by show W.heap.size < _; simp; try omega)))
                clear hK K
                try simp only [Act.put, List.setIfInBounds_toArray, List.set_cons_zero, List.set_cons_succ]
                refine wpAnyH_done (by kernel_rfl) ?_ _
                go_wp2_with fail
                go_meet
                refine ⟨_, _, _, rfl, rfl, rfl, by omega, by omega, by omega, ⟨?_, ?_, ?_⟩, ⟨?_, ?_, ?_⟩, ⟨?_, ?_, ?_⟩, hHeld.box, ⟨?_, ?_, ?_⟩, fun o => ?_, hHeld.bel⟩
                all_goals first | (simp [go_sem]; done) | (simp [go_sem]; omega) | skip
              exact AllReadyH.nil
            exact AllReadyH.nil
          exact AllReadyH.nil
        exact AllReadyH.nil
      exact AllReadyH.nil
    exact AllReadyH.nil

  case rest =>
    obtain ⟨g, h, i, rfl, rfl, rfl, lg, lh, li, ⟨pg, pg0, pg1⟩, ⟨ph, ph0, ph1⟩, ⟨pi, pi0, pi1⟩, bx, ⟨pr, pr0, pr1⟩, fr, hbel⟩ := hcut
    have HR := Lib.hid (⟨bx, pr0, pr1, fr, pr, hbel⟩ : VecR W _ _ _ _ _ _ _ wc)
    have HRD := Lib.hid HR.out.drew
    have f0 := fr 0
    have f1 := fr 1
    unfold At7 at bx
    have HC := Lib.hid (fun W => unary_ok o w0 n0 ho hm W)
    have d1 : (((o : Nat) : Int) == 1) = false := by simp; omega
    have d2 : (((o : Nat) : Int) == 2) = false := by simp; omega
    clear hm
    rcases ho with ho | ho
    all_goals
      first | (have d3 : (((o : Nat) : Int) == 3) = true := by simp; omega) | (have d3 : (((o : Nat) : Int) == 3) = false := by simp; omega)
      first | (have d4 : (((o : Nat) : Int) == 4) = true := by simp; omega) | (have d4 : (((o : Nat) : Int) == 4) = false := by simp; omega)
      clear ho
      go_wp2_with (go_at_call 42; refine (HC.out _).mono ?_; rintro e w5 ⟨rfl, hb5⟩; have H5 := Lib.hid (HR.out.call hb5); have g0 := H5.out.r0; have g1 := H5.out.r1; have g2 := H5.out.fr 0; have g3 := H5.out.fr 1; have g4 := H5.out.l)
      exact bodyPost_ret (v := .tuple #[.agg #[.int .u8 ((w0 : Nat) : Int), .int .u64 ((low w0 (numU o n0) : Nat) : Int)], .int .i64 0]) (by simp [results, Try.results22, go_sem, g0, g1]) rfl ⟨rfl, (H5.out.b.setCell (Nat.le_succ _) _).setCell (Nat.le_succ _) _⟩

theorem vec_extract (w n l b : Nat) (k0 k1 k2 : Int) (w0 n0 w1 n1 w2 n2 : Nat) (W : World) (av : Value) (hm : mayB w0 n0 = true) (hw1 : 1 ≤ w) (hlw : l + w ≤ w0) (h64 : w0 ≤ 64) (HL : Hid (LookAt W b k0 k1 k2 w0 n0 w1 n1 w2 n2)) :
    Calls Try.prog 22 #[.agg #[.int .u8 22, .int .u8 ((w : Nat) : Int), .int .i64 k0, .int .i64 k1, .int .i64 k2, .int .u64 ((n : Nat) : Int), .int .u8 ((l : Nat) : Int)], .map (some b), av] W fun e W' => e = .returned (.tuple #[.agg #[.int .u8 ((w : Nat) : Int), .int .u64 ((low w (n0 / 2 ^ l) : Nat) : Int)], .int .i64 0]) ∧ Below W.heap.size W W' := by
  have HS : Hid (VecS W b (.int .u8 22) (.int .u8 ((w : Nat) : Int)) (.int .u64 ((n : Nat) : Int)) (.int .u8 ((l : Nat) : Int)) k0 k1 k2 w0 n0 w1 n1 w2 n2 ((W.alloc (.cells #[.int .u8 22, .int .u8 ((w : Nat) : Int), .int .i64 k0, .int .i64 k1, .int .i64 k2, .int .u64 ((n : Nat) : Int), .int .u8 ((l : Nat) : Int)] 62)).alloc (.cells #[.int .u8 0, .int .u64 0] 31))) :=
    VecS.alloc ⟨At7.new W _ _ _ _ _ _ _ _, HL.out.same (Below.heap_alloc _ _ _ HL.out.1) (by simp), bel_alloc (Below.refl _ _) _, HL.out.1⟩ _
  go_enter Try.func22, Try.ntmps22
  go_upto_region 1 with fail
  go_cut [8, 9, 10] (fun s8 s9 s10 wx => ∃ g h i : Nat, s8 = .pointer (some ⟨g, 0, none⟩) ∧ s9 = .pointer (some ⟨h, 0, none⟩) ∧ s10 = .pointer (some ⟨i, 0, none⟩) ∧ W.heap.size + 1 < g ∧ W.heap.size + 1 < h ∧ W.heap.size + 1 < i ∧ At2 wx g (.int .u8 ((w0 : Nat) : Int)) (.int .u64 ((n0 : Nat) : Int)) ∧ At2 wx h (.int .u8 ((w1 : Nat) : Int)) (.int .u64 ((n1 : Nat) : Int)) ∧ At2 wx i (.int .u8 ((w2 : Nat) : Int)) (.int .u64 ((n2 : Nat) : Int)) ∧ At7 wx W.heap.size (.int .u8 22) (.int .u8 ((w : Nat) : Int)) (.int .i64 k0) (.int .i64 k1) (.int .i64 k2) (.int .u64 ((n : Nat) : Int)) (.int .u8 ((l : Nat) : Int)) ∧ At2 wx (W.heap.size + 1) (.int .u8 0) (.int .u64 0) ∧ (∀ o, wx.frozen? ⟨W.heap.size + 1, o, none⟩ = false) ∧ Below W.heap.size W wx)
  case first =>
    refine wp_region_held_drew (S := fun w' => VecS W b (.int .u8 22) (.int .u8 ((w : Nat) : Int)) (.int .u64 ((n : Nat) : Int)) (.int .u8 ((l : Nat) : Int)) k0 k1 k2 w0 n0 w1 n1 w2 n2 w') (by kernel_rfl) HS.out.drew (fun hHeld => ?_)
    refine wpAnyH_take (i := 0) (v := .map (some b)) (by simp only [List.getElem?_toArray, List.getElem?_cons_zero]; rfl) (by kernel_rfl) (by kernel_rfl) (by kernel_rfl) (by exact fun _ _ _ h => h) (Or.inl ⟨by rfl, ?_⟩) hHeld ?_
    · intro w' hSw
      go_simp
    simp only [Act.put, List.setIfInBounds_toArray, List.set_cons_zero, List.set_cons_succ]
    refine wpAnyH_take (i := 1) (v := .pointer (some ⟨W.heap.size, 2, none⟩)) (by simp only [List.getElem?_toArray, List.getElem?_cons_zero, List.getElem?_cons_succ]; rfl) (by kernel_rfl) (by kernel_rfl) (by kernel_rfl) (by exact fun _ _ _ h => h) (Or.inl ⟨by rfl, ?_⟩) hHeld ?_
    · intro w' hSw
      go_simp
    simp only [Act.put, List.setIfInBounds_toArray, List.set_cons_zero, List.set_cons_succ]
    refine wpAnyH_take (i := 2) (v := .pointer (some ⟨W.heap.size, 2, none⟩)) (by simp only [List.getElem?_toArray, List.getElem?_cons_zero, List.getElem?_cons_succ]; rfl) (by kernel_rfl) (by kernel_rfl) (by kernel_rfl) (by exact fun _ _ _ h => h) (Or.inl ⟨by rfl, ?_⟩) hHeld ?_
    · intro w' hSw
      go_simp
    simp only [Act.put, List.setIfInBounds_toArray, List.set_cons_zero, List.set_cons_succ]
    refine wpAnyH_take (i := 3) (v := .int .i64 k0) (by simp only [List.getElem?_toArray, List.getElem?_cons_zero, List.getElem?_cons_succ]; rfl) (by kernel_rfl) (by kernel_rfl) (by kernel_rfl) (by exact fun _ _ _ h => h) (Or.inl ⟨by rfl, ?_⟩) hHeld ?_
    · intro w' hSw
      obtain ⟨f0, f1, f2, f3, f4, f5, f6, f7, f8, f9⟩ := hSw.facts; have lW := hSw.box.lt; go_simp
    simp only [Act.put, List.setIfInBounds_toArray, List.set_cons_zero, List.set_cons_succ]
    refine wpAnyH_take (i := 4) (v := .agg #[.int .u8 ((w0 : Nat) : Int), .int .u64 ((n0 : Nat) : Int)]) (by simp only [List.getElem?_toArray, List.getElem?_cons_zero, List.getElem?_cons_succ]; rfl) (by kernel_rfl) (by kernel_rfl) (by kernel_rfl) (by exact fun _ _ _ h => h) (Or.inl ⟨by rfl, ?_⟩) hHeld ?_
    · intro w' hSw
      obtain ⟨f0, f1, f2, f3, f4, f5, f6, f7, f8, f9⟩ := hSw.facts; have lW := hSw.box.lt; go_simp
    simp only [Act.put, List.setIfInBounds_toArray, List.set_cons_zero, List.set_cons_succ]
    refine wpAnyH_take (i := 5) (v := .map (some b)) (by simp only [List.getElem?_toArray, List.getElem?_cons_zero, List.getElem?_cons_succ]; rfl) (by kernel_rfl) (by kernel_rfl) (by kernel_rfl) (by exact fun _ _ _ h => h) (Or.inl ⟨by rfl, ?_⟩) hHeld ?_
    · intro w' hSw
      go_simp
    simp only [Act.put, List.setIfInBounds_toArray, List.set_cons_zero, List.set_cons_succ]
    refine wpAnyH_take (i := 6) (v := .pointer (some ⟨W.heap.size, 2, none⟩)) (by simp only [List.getElem?_toArray, List.getElem?_cons_zero, List.getElem?_cons_succ]; rfl) (by kernel_rfl) (by kernel_rfl) (by kernel_rfl) (by exact fun _ _ _ h => h) (Or.inl ⟨by rfl, ?_⟩) hHeld ?_
    · intro w' hSw
      go_simp
    simp only [Act.put, List.setIfInBounds_toArray, List.set_cons_zero, List.set_cons_succ]
    refine wpAnyH_take (i := 7) (v := .pointer (some ⟨W.heap.size, 3, none⟩)) (by simp only [List.getElem?_toArray, List.getElem?_cons_zero, List.getElem?_cons_succ]; rfl) (by kernel_rfl) (by kernel_rfl) (by kernel_rfl) (by exact fun _ _ _ h => h) (Or.inl ⟨by rfl, ?_⟩) hHeld ?_
    · intro w' hSw
      go_simp
    simp only [Act.put, List.setIfInBounds_toArray, List.set_cons_zero, List.set_cons_succ]
    refine wpAnyH_take (i := 8) (v := .int .i64 k1) (by simp only [List.getElem?_toArray, List.getElem?_cons_zero, List.getElem?_cons_succ]; rfl) (by kernel_rfl) (by kernel_rfl) (by kernel_rfl) (by exact fun _ _ _ h => h) (Or.inl ⟨by rfl, ?_⟩) hHeld ?_
    · intro w' hSw
      obtain ⟨f0, f1, f2, f3, f4, f5, f6, f7, f8, f9⟩ := hSw.facts; have lW := hSw.box.lt; go_simp
    simp only [Act.put, List.setIfInBounds_toArray, List.set_cons_zero, List.set_cons_succ]
    refine wpAnyH_take (i := 9) (v := .agg #[.int .u8 ((w1 : Nat) : Int), .int .u64 ((n1 : Nat) : Int)]) (by simp only [List.getElem?_toArray, List.getElem?_cons_zero, List.getElem?_cons_succ]; rfl) (by kernel_rfl) (by kernel_rfl) (by kernel_rfl) (by exact fun _ _ _ h => h) (Or.inl ⟨by rfl, ?_⟩) hHeld ?_
    · intro w' hSw
      obtain ⟨f0, f1, f2, f3, f4, f5, f6, f7, f8, f9⟩ := hSw.facts; have lW := hSw.box.lt; go_simp
    simp only [Act.put, List.setIfInBounds_toArray, List.set_cons_zero, List.set_cons_succ]
    refine wpAnyH_take (i := 10) (v := .map (some b)) (by simp only [List.getElem?_toArray, List.getElem?_cons_zero, List.getElem?_cons_succ]; rfl) (by kernel_rfl) (by kernel_rfl) (by kernel_rfl) (by exact fun _ _ _ h => h) (Or.inl ⟨by rfl, ?_⟩) hHeld ?_
    · intro w' hSw
      go_simp
    simp only [Act.put, List.setIfInBounds_toArray, List.set_cons_zero, List.set_cons_succ]
    refine wpAnyH_take (i := 11) (v := .pointer (some ⟨W.heap.size, 2, none⟩)) (by simp only [List.getElem?_toArray, List.getElem?_cons_zero, List.getElem?_cons_succ]; rfl) (by kernel_rfl) (by kernel_rfl) (by kernel_rfl) (by exact fun _ _ _ h => h) (Or.inl ⟨by rfl, ?_⟩) hHeld ?_
    · intro w' hSw
      go_simp
    simp only [Act.put, List.setIfInBounds_toArray, List.set_cons_zero, List.set_cons_succ]
    refine wpAnyH_take (i := 12) (v := .pointer (some ⟨W.heap.size, 4, none⟩)) (by simp only [List.getElem?_toArray, List.getElem?_cons_zero, List.getElem?_cons_succ]; rfl) (by kernel_rfl) (by kernel_rfl) (by kernel_rfl) (by exact fun _ _ _ h => h) (Or.inl ⟨by rfl, ?_⟩) hHeld ?_
    · intro w' hSw
      go_simp
    simp only [Act.put, List.setIfInBounds_toArray, List.set_cons_zero, List.set_cons_succ]
    refine wpAnyH_take (i := 13) (v := .int .i64 k2) (by simp only [List.getElem?_toArray, List.getElem?_cons_zero, List.getElem?_cons_succ]; rfl) (by kernel_rfl) (by kernel_rfl) (by kernel_rfl) (by exact fun _ _ _ h => h) (Or.inl ⟨by rfl, ?_⟩) hHeld ?_
    · intro w' hSw
      obtain ⟨f0, f1, f2, f3, f4, f5, f6, f7, f8, f9⟩ := hSw.facts; have lW := hSw.box.lt; go_simp
    simp only [Act.put, List.setIfInBounds_toArray, List.set_cons_zero, List.set_cons_succ]
    refine wpAnyH_take (i := 14) (v := .agg #[.int .u8 ((w2 : Nat) : Int), .int .u64 ((n2 : Nat) : Int)]) (by simp only [List.getElem?_toArray, List.getElem?_cons_zero, List.getElem?_cons_succ]; rfl) (by kernel_rfl) (by kernel_rfl) (by kernel_rfl) (by exact fun _ _ _ h => h) (Or.inl ⟨by rfl, ?_⟩) hHeld ?_
    · intro w' hSw
      obtain ⟨f0, f1, f2, f3, f4, f5, f6, f7, f8, f9⟩ := hSw.facts; have lW := hSw.box.lt; go_simp
    simp only [Act.put, List.setIfInBounds_toArray, List.set_cons_zero, List.set_cons_succ]
    refine wpAnyH_ready (rs := [15, 16, 17]) (by kernel_rfl) (by simp) ?_
    refine AllReadyH.cons (by simp only [List.getElem?_toArray, List.getElem?_cons_zero, List.getElem?_cons_succ]; rfl) (fun K hK => ?_) ?_
    · go_simp
      refine hK.out _ _ ?_ (fun hHeld => ?_)
      · repeat (first | exact hHeld | exact HS.out | (refine VecS.alloc ?_ _) | (refine VecS.drew ?_) | (refine VecS.setCell ?_ _ _ (by show W.heap.size < _; simp; try omega)))
      clear hK K
      try simp only [Act.put, List.setIfInBounds_toArray, List.set_cons_zero, List.set_cons_succ]
      refine wpAnyH_ready (rs := [16, 17]) (by kernel_rfl) (by simp) ?_
      refine AllReadyH.cons (by simp only [List.getElem?_toArray, List.getElem?_cons_zero, List.getElem?_cons_succ]; rfl) (fun K hK => ?_) ?_
      · go_simp
        refine hK.out _ _ ?_ (fun hHeld => ?_)
        · repeat (first | exact hHeld | exact HS.out | (refine VecS.alloc ?_ _) | (refine VecS.drew ?_) | (refine VecS.setCell ?_ _ _ (by show W.heap.size < _; simp; try omega)))
        clear hK K
        try simp only [Act.put, List.setIfInBounds_toArray, List.set_cons_zero, List.set_cons_succ]
        refine wpAnyH_ready (rs := [17]) (by kernel_rfl) (by simp) ?_
        refine AllReadyH.cons (by simp only [List.getElem?_toArray, List.getElem?_cons_zero, List.getElem?_cons_succ]; rfl) (fun K hK => ?_) ?_
        · go_simp
          refine hK.out _ _ ?_ (fun hHeld => ?_)
          · repeat (first | exact hHeld | exact HS.out | (refine VecS.alloc ?_ _) | (refine VecS.drew ?_) | (refine VecS.setCell ?_ _ _ (by show W.heap.size < _; simp; try omega)))
          clear hK K
          try simp only [Act.put, List.setIfInBounds_toArray, List.set_cons_zero, List.set_cons_succ]
          refine wpAnyH_ready (rs := [18]) (by kernel_rfl) (by simp) ?_
          refine AllReadyH.cons (by simp only [List.getElem?_toArray, List.getElem?_cons_zero, List.getElem?_cons_succ]; rfl) (fun K hK => ?_) ?_
          · go_simp
            refine hK.out _ _ ?_ (fun hHeld => ?_)
            · repeat (first | exact hHeld | exact HS.out | (refine VecS.alloc ?_ _) | (refine VecS.drew ?_) | (refine VecS.setCell ?_ _ _ (by show W.heap.size < _; simp; try omega)))
            clear hK K
            try simp only [Act.put, List.setIfInBounds_toArray, List.set_cons_zero, List.set_cons_succ]
            refine wpAnyH_ready (rs := [19]) (by kernel_rfl) (by simp) ?_
            refine AllReadyH.cons (by simp only [List.getElem?_toArray, List.getElem?_cons_zero, List.getElem?_cons_succ]; rfl) (fun K hK => ?_) ?_
            · go_simp
              refine hK.out _ _ ?_ (fun hHeld => ?_)
              · repeat (first | exact hHeld | exact HS.out | (refine VecS.alloc ?_ _) | (refine VecS.drew ?_) | (refine VecS.setCell ?_ _ _ (by show W.heap.size < _; simp; try omega)))
              clear hK K
              try simp only [Act.put, List.setIfInBounds_toArray, List.set_cons_zero, List.set_cons_succ]
              refine wpAnyH_ready (rs := [20]) (by kernel_rfl) (by simp) ?_
              refine AllReadyH.cons (by simp only [List.getElem?_toArray, List.getElem?_cons_zero, List.getElem?_cons_succ]; rfl) (fun K hK => ?_) ?_
              · go_simp
                refine hK.out _ _ ?_ (fun hHeld => ?_)
                · repeat (first | exact hHeld | exact HS.out | (refine VecS.alloc ?_ _) | (refine VecS.drew ?_) | (refine VecS.setCell ?_ _ _ (by show W.heap.size < _; simp; try omega)))
                clear hK K
                try simp only [Act.put, List.setIfInBounds_toArray, List.set_cons_zero, List.set_cons_succ]
                refine wpAnyH_done (by kernel_rfl) ?_ _
                go_wp2_with fail
                go_meet
                refine ⟨_, _, _, rfl, rfl, rfl, by omega, by omega, by omega, ⟨?_, ?_, ?_⟩, ⟨?_, ?_, ?_⟩, ⟨?_, ?_, ?_⟩, hHeld.box, ⟨?_, ?_, ?_⟩, fun o => ?_, hHeld.bel⟩
                all_goals first | (simp [go_sem]; done) | (simp [go_sem]; omega) | skip
              exact AllReadyH.nil
            exact AllReadyH.nil
          exact AllReadyH.nil
        exact AllReadyH.nil
      refine AllReadyH.cons (by simp only [List.getElem?_toArray, List.getElem?_cons_zero, List.getElem?_cons_succ]; rfl) (fun K hK => ?_) ?_
      · go_simp
        refine hK.out _ _ ?_ (fun hHeld => ?_)
        · repeat (first | exact hHeld | exact HS.out | (refine VecS.alloc ?_ _) | (refine VecS.drew ?_) | (refine VecS.setCell ?_ _ _ (by show W.heap.size < _; simp; try omega)))
        clear hK K
        try simp only [Act.put, List.setIfInBounds_toArray, List.set_cons_zero, List.set_cons_succ]
        refine wpAnyH_ready (rs := [16]) (by kernel_rfl) (by simp) ?_
        refine AllReadyH.cons (by simp only [List.getElem?_toArray, List.getElem?_cons_zero, List.getElem?_cons_succ]; rfl) (fun K hK => ?_) ?_
        · go_simp
          refine hK.out _ _ ?_ (fun hHeld => ?_)
          · repeat (first | exact hHeld | exact HS.out | (refine VecS.alloc ?_ _) | (refine VecS.drew ?_) | (refine VecS.setCell ?_ _ _ (by show W.heap.size < _; simp; try omega)))
          clear hK K
          try simp only [Act.put, List.setIfInBounds_toArray, List.set_cons_zero, List.set_cons_succ]
          refine wpAnyH_ready (rs := [18]) (by kernel_rfl) (by simp) ?_
          refine AllReadyH.cons (by simp only [List.getElem?_toArray, List.getElem?_cons_zero, List.getElem?_cons_succ]; rfl) (fun K hK => ?_) ?_
          · go_simp
            refine hK.out _ _ ?_ (fun hHeld => ?_)
            · repeat (first | exact hHeld | exact HS.out | (refine VecS.alloc ?_ _) | (refine VecS.drew ?_) | (refine VecS.setCell ?_ _ _ (by show W.heap.size < _; simp; try omega)))
            clear hK K
            try simp only [Act.put, List.setIfInBounds_toArray, List.set_cons_zero, List.set_cons_succ]
            refine wpAnyH_ready (rs := [19]) (by kernel_rfl) (by simp) ?_
            refine AllReadyH.cons (by simp only [List.getElem?_toArray, List.getElem?_cons_zero, List.getElem?_cons_succ]; rfl) (fun K hK => ?_) ?_
            · go_simp
              refine hK.out _ _ ?_ (fun hHeld => ?_)
              · repeat (first | exact hHeld | exact HS.out | (refine VecS.alloc ?_ _) | (refine VecS.drew ?_) | (refine VecS.setCell ?_ _ _ (by show W.heap.size < _; simp; try omega)))
              clear hK K
              try simp only [Act.put, List.setIfInBounds_toArray, List.set_cons_zero, List.set_cons_succ]
              refine wpAnyH_ready (rs := [20]) (by kernel_rfl) (by simp) ?_
              refine AllReadyH.cons (by simp only [List.getElem?_toArray, List.getElem?_cons_zero, List.getElem?_cons_succ]; rfl) (fun K hK => ?_) ?_
              · go_simp
                refine hK.out _ _ ?_ (fun hHeld => ?_)
                · repeat (first | exact hHeld | exact HS.out | (refine VecS.alloc ?_ _) | (refine VecS.drew ?_) | (refine VecS.setCell ?_ _ _ (by show W.heap.size < _; simp; try omega)))
                clear hK K
                try simp only [Act.put, List.setIfInBounds_toArray, List.set_cons_zero, List.set_cons_succ]
                refine wpAnyH_done (by kernel_rfl) ?_ _
                go_wp2_with fail
                go_meet
                refine ⟨_, _, _, rfl, rfl, rfl, by omega, by omega, by omega, ⟨?_, ?_, ?_⟩, ⟨?_, ?_, ?_⟩, ⟨?_, ?_, ?_⟩, hHeld.box, ⟨?_, ?_, ?_⟩, fun o => ?_, hHeld.bel⟩
                all_goals first | (simp [go_sem]; done) | (simp [go_sem]; omega) | skip
              exact AllReadyH.nil
            exact AllReadyH.nil
          exact AllReadyH.nil
        exact AllReadyH.nil
      exact AllReadyH.nil
    refine AllReadyH.cons (by simp only [List.getElem?_toArray, List.getElem?_cons_zero, List.getElem?_cons_succ]; rfl) (fun K hK => ?_) ?_
    · go_simp
      refine hK.out _ _ ?_ (fun hHeld => ?_)
      · repeat (first | exact hHeld | exact HS.out | (refine VecS.alloc ?_ _) | (refine VecS.drew ?_) | (refine VecS.setCell ?_ _ _ (by show W.heap.size < _; simp; try omega)))
      clear hK K
      try simp only [Act.put, List.setIfInBounds_toArray, List.set_cons_zero, List.set_cons_succ]
      refine wpAnyH_ready (rs := [15, 17]) (by kernel_rfl) (by simp) ?_
      refine AllReadyH.cons (by simp only [List.getElem?_toArray, List.getElem?_cons_zero, List.getElem?_cons_succ]; rfl) (fun K hK => ?_) ?_
      · go_simp
        refine hK.out _ _ ?_ (fun hHeld => ?_)
        · repeat (first | exact hHeld | exact HS.out | (refine VecS.alloc ?_ _) | (refine VecS.drew ?_) | (refine VecS.setCell ?_ _ _ (by show W.heap.size < _; simp; try omega)))
        clear hK K
        try simp only [Act.put, List.setIfInBounds_toArray, List.set_cons_zero, List.set_cons_succ]
        refine wpAnyH_ready (rs := [17]) (by kernel_rfl) (by simp) ?_
        refine AllReadyH.cons (by simp only [List.getElem?_toArray, List.getElem?_cons_zero, List.getElem?_cons_succ]; rfl) (fun K hK => ?_) ?_
        · go_simp
          refine hK.out _ _ ?_ (fun hHeld => ?_)
          · repeat (first | exact hHeld | exact HS.out | (refine VecS.alloc ?_ _) | (refine VecS.drew ?_) | (refine VecS.setCell ?_ _ _ (by show W.heap.size < _; simp; try omega)))
          clear hK K
          try simp only [Act.put, List.setIfInBounds_toArray, List.set_cons_zero, List.set_cons_succ]
          refine wpAnyH_ready (rs := [18]) (by kernel_rfl) (by simp) ?_
          refine AllReadyH.cons (by simp only [List.getElem?_toArray, List.getElem?_cons_zero, List.getElem?_cons_succ]; rfl) (fun K hK => ?_) ?_
          · go_simp
            refine hK.out _ _ ?_ (fun hHeld => ?_)
            · repeat (first | exact hHeld | exact HS.out | (refine VecS.alloc ?_ _) | (refine VecS.drew ?_) | (refine VecS.setCell ?_ _ _ (by show W.heap.size < _; simp; try omega)))
            clear hK K
            try simp only [Act.put, List.setIfInBounds_toArray, List.set_cons_zero, List.set_cons_succ]
            refine wpAnyH_ready (rs := [19]) (by kernel_rfl) (by simp) ?_
            refine AllReadyH.cons (by simp only [List.getElem?_toArray, List.getElem?_cons_zero, List.getElem?_cons_succ]; rfl) (fun K hK => ?_) ?_
            · go_simp
              refine hK.out _ _ ?_ (fun hHeld => ?_)
              · repeat (first | exact hHeld | exact HS.out | (refine VecS.alloc ?_ _) | (refine VecS.drew ?_) | (refine VecS.setCell ?_ _ _ (by show W.heap.size < _; simp; try omega)))
              clear hK K
              try simp only [Act.put, List.setIfInBounds_toArray, List.set_cons_zero, List.set_cons_succ]
              refine wpAnyH_ready (rs := [20]) (by kernel_rfl) (by simp) ?_
              refine AllReadyH.cons (by simp only [List.getElem?_toArray, List.getElem?_cons_zero, List.getElem?_cons_succ]; rfl) (fun K hK => ?_) ?_
              · go_simp
                refine hK.out _ _ ?_ (fun hHeld => ?_)
                · repeat (first | exact hHeld | exact HS.out | (refine VecS.alloc ?_ _) | (refine VecS.drew ?_) | (refine VecS.setCell ?_ _ _ (by show W.heap.size < _; simp; try omega)))
                clear hK K
                try simp only [Act.put, List.setIfInBounds_toArray, List.set_cons_zero, List.set_cons_succ]
                refine wpAnyH_done (by kernel_rfl) ?_ _
                go_wp2_with fail
                go_meet
                refine ⟨_, _, _, rfl, rfl, rfl, by omega, by omega, by omega, ⟨?_, ?_, ?_⟩, ⟨?_, ?_, ?_⟩, ⟨?_, ?_, ?_⟩, hHeld.box, ⟨?_, ?_, ?_⟩, fun o => ?_, hHeld.bel⟩
                all_goals first | (simp [go_sem]; done) | (simp [go_sem]; omega) | skip
              exact AllReadyH.nil
            exact AllReadyH.nil
          exact AllReadyH.nil
        exact AllReadyH.nil
      refine AllReadyH.cons (by simp only [List.getElem?_toArray, List.getElem?_cons_zero, List.getElem?_cons_succ]; rfl) (fun K hK => ?_) ?_
      · go_simp
        refine hK.out _ _ ?_ (fun hHeld => ?_)
        · repeat (first | exact hHeld | exact HS.out | (refine VecS.alloc ?_ _) | (refine VecS.drew ?_) | (refine VecS.setCell ?_ _ _ (by show W.heap.size < _; simp; try omega)))
        clear hK K
        try simp only [Act.put, List.setIfInBounds_toArray, List.set_cons_zero, List.set_cons_succ]
        refine wpAnyH_ready (rs := [15]) (by kernel_rfl) (by simp) ?_
        refine AllReadyH.cons (by simp only [List.getElem?_toArray, List.getElem?_cons_zero, List.getElem?_cons_succ]; rfl) (fun K hK => ?_) ?_
        · go_simp
          refine hK.out _ _ ?_ (fun hHeld => ?_)
          · repeat (first | exact hHeld | exact HS.out | (refine VecS.alloc ?_ _) | (refine VecS.drew ?_) | (refine VecS.setCell ?_ _ _ (by show W.heap.size < _; simp; try omega)))
          clear hK K
          try simp only [Act.put, List.setIfInBounds_toArray, List.set_cons_zero, List.set_cons_succ]
          refine wpAnyH_ready (rs := [18]) (by kernel_rfl) (by simp) ?_
          refine AllReadyH.cons (by simp only [List.getElem?_toArray, List.getElem?_cons_zero, List.getElem?_cons_succ]; rfl) (fun K hK => ?_) ?_
          · go_simp
            refine hK.out _ _ ?_ (fun hHeld => ?_)
            · repeat (first | exact hHeld | exact HS.out | (refine VecS.alloc ?_ _) | (refine VecS.drew ?_) | (refine VecS.setCell ?_ _ _ (by show W.heap.size < _; simp; try omega)))
            clear hK K
            try simp only [Act.put, List.setIfInBounds_toArray, List.set_cons_zero, List.set_cons_succ]
            refine wpAnyH_ready (rs := [19]) (by kernel_rfl) (by simp) ?_
            refine AllReadyH.cons (by simp only [List.getElem?_toArray, List.getElem?_cons_zero, List.getElem?_cons_succ]; rfl) (fun K hK => ?_) ?_
            · go_simp
              refine hK.out _ _ ?_ (fun hHeld => ?_)
              · repeat (first | exact hHeld | exact HS.out | (refine VecS.alloc ?_ _) | (refine VecS.drew ?_) | (refine VecS.setCell ?_ _ _ (by show W.heap.size < _; simp; try omega)))
              clear hK K
              try simp only [Act.put, List.setIfInBounds_toArray, List.set_cons_zero, List.set_cons_succ]
              refine wpAnyH_ready (rs := [20]) (by kernel_rfl) (by simp) ?_
              refine AllReadyH.cons (by simp only [List.getElem?_toArray, List.getElem?_cons_zero, List.getElem?_cons_succ]; rfl) (fun K hK => ?_) ?_
              · go_simp
                refine hK.out _ _ ?_ (fun hHeld => ?_)
                · repeat (first | exact hHeld | exact HS.out | (refine VecS.alloc ?_ _) | (refine VecS.drew ?_) | (refine VecS.setCell ?_ _ _ (by show W.heap.size < _; simp; try omega)))
                clear hK K
                try simp only [Act.put, List.setIfInBounds_toArray, List.set_cons_zero, List.set_cons_succ]
                refine wpAnyH_done (by kernel_rfl) ?_ _
                go_wp2_with fail
                go_meet
                refine ⟨_, _, _, rfl, rfl, rfl, by omega, by omega, by omega, ⟨?_, ?_, ?_⟩, ⟨?_, ?_, ?_⟩, ⟨?_, ?_, ?_⟩, hHeld.box, ⟨?_, ?_, ?_⟩, fun o => ?_, hHeld.bel⟩
                all_goals first | (simp [go_sem]; done) | (simp [go_sem]; omega) | skip
              exact AllReadyH.nil
            exact AllReadyH.nil
          exact AllReadyH.nil
        exact AllReadyH.nil
      exact AllReadyH.nil
    refine AllReadyH.cons (by simp only [List.getElem?_toArray, List.getElem?_cons_zero, List.getElem?_cons_succ]; rfl) (fun K hK => ?_) ?_
    · go_simp
      refine hK.out _ _ ?_ (fun hHeld => ?_)
      · repeat (first | exact hHeld | exact HS.out | (refine VecS.alloc ?_ _) | (refine VecS.drew ?_) | (refine VecS.setCell ?_ _ _ (by show W.heap.size < _; simp; try omega)))
      clear hK K
      try simp only [Act.put, List.setIfInBounds_toArray, List.set_cons_zero, List.set_cons_succ]
      refine wpAnyH_ready (rs := [15, 16]) (by kernel_rfl) (by simp) ?_
      refine AllReadyH.cons (by simp only [List.getElem?_toArray, List.getElem?_cons_zero, List.getElem?_cons_succ]; rfl) (fun K hK => ?_) ?_
      · go_simp
        refine hK.out _ _ ?_ (fun hHeld => ?_)
        · repeat (first | exact hHeld | exact HS.out | (refine VecS.alloc ?_ _) | (refine VecS.drew ?_) | (refine VecS.setCell ?_ _ _ (by show W.heap.size < _; simp; try omega)))
        clear hK K
        try simp only [Act.put, List.setIfInBounds_toArray, List.set_cons_zero, List.set_cons_succ]
        refine wpAnyH_ready (rs := [16]) (by kernel_rfl) (by simp) ?_
        refine AllReadyH.cons (by simp only [List.getElem?_toArray, List.getElem?_cons_zero, List.getElem?_cons_succ]; rfl) (fun K hK => ?_) ?_
        · go_simp
          refine hK.out _ _ ?_ (fun hHeld => ?_)
          · repeat (first | exact hHeld | exact HS.out | (refine VecS.alloc ?_ _) | (refine VecS.drew ?_) | (refine VecS.setCell ?_ _ _ (by show W.heap.size < _; simp; try omega)))
          clear hK K
          try simp only [Act.put, List.setIfInBounds_toArray, List.set_cons_zero, List.set_cons_succ]
          refine wpAnyH_ready (rs := [18]) (by kernel_rfl) (by simp) ?_
          refine AllReadyH.cons (by simp only [List.getElem?_toArray, List.getElem?_cons_zero, List.getElem?_cons_succ]; rfl) (fun K hK => ?_) ?_
          · go_simp
            refine hK.out _ _ ?_ (fun hHeld => ?_)
            · repeat (first | exact hHeld | exact HS.out | (refine VecS.alloc ?_ _) | (refine VecS.drew ?_) | (refine VecS.setCell ?_ _ _ (by show W.heap.size < _; simp; try omega)))
            clear hK K
            try simp only [Act.put, List.setIfInBounds_toArray, List.set_cons_zero, List.set_cons_succ]
            refine wpAnyH_ready (rs := [19]) (by kernel_rfl) (by simp) ?_
            refine AllReadyH.cons (by simp only [List.getElem?_toArray, List.getElem?_cons_zero, List.getElem?_cons_succ]; rfl) (fun K hK => ?_) ?_
            · go_simp
              refine hK.out _ _ ?_ (fun hHeld => ?_)
              · repeat (first | exact hHeld | exact HS.out | (refine VecS.alloc ?_ _) | (refine VecS.drew ?_) | (refine VecS.setCell ?_ _ _ (by show W.heap.size < _; simp; try omega)))
              clear hK K
              try simp only [Act.put, List.setIfInBounds_toArray, List.set_cons_zero, List.set_cons_succ]
              refine wpAnyH_ready (rs := [20]) (by kernel_rfl) (by simp) ?_
              refine AllReadyH.cons (by simp only [List.getElem?_toArray, List.getElem?_cons_zero, List.getElem?_cons_succ]; rfl) (fun K hK => ?_) ?_
              · go_simp
                refine hK.out _ _ ?_ (fun hHeld => ?_)
                · repeat (first | exact hHeld | exact HS.out | (refine VecS.alloc ?_ _) | (refine VecS.drew ?_) | (refine VecS.setCell ?_ _ _ (by show W.heap.size < _; simp; try omega)))
                clear hK K
                try simp only [Act.put, List.setIfInBounds_toArray, List.set_cons_zero, List.set_cons_succ]
                refine wpAnyH_done (by kernel_rfl) ?_ _
                go_wp2_with fail
                go_meet
                refine ⟨_, _, _, rfl, rfl, rfl, by omega, by omega, by omega, ⟨?_, ?_, ?_⟩, ⟨?_, ?_, ?_⟩, ⟨?_, ?_, ?_⟩, hHeld.box, ⟨?_, ?_, ?_⟩, fun o => ?_, hHeld.bel⟩
                all_goals first | (simp [go_sem]; done) | (simp [go_sem]; omega) | skip
              exact AllReadyH.nil
            exact AllReadyH.nil
          exact AllReadyH.nil
        exact AllReadyH.nil
      refine AllReadyH.cons (by simp only [List.getElem?_toArray, List.getElem?_cons_zero, List.getElem?_cons_succ]; rfl) (fun K hK => ?_) ?_
      · go_simp
        refine hK.out _ _ ?_ (fun hHeld => ?_)
        · repeat (first | exact hHeld | exact HS.out | (refine VecS.alloc ?_ _) | (refine VecS.drew ?_) | (refine VecS.setCell ?_ _ _ (by show W.heap.size < _; simp; try omega)))
        clear hK K
        try simp only [Act.put, List.setIfInBounds_toArray, List.set_cons_zero, List.set_cons_succ]
        refine wpAnyH_ready (rs := [15]) (by kernel_rfl) (by simp) ?_
        refine AllReadyH.cons (by simp only [List.getElem?_toArray, List.getElem?_cons_zero, List.getElem?_cons_succ]; rfl) (fun K hK => ?_) ?_
        · go_simp
          refine hK.out _ _ ?_ (fun hHeld => ?_)
          · repeat (first | exact hHeld | exact HS.out | (refine VecS.alloc ?_ _) | (refine VecS.drew ?_) | (refine VecS.setCell ?_ _ _ (by show W.heap.size < _; simp; try omega)))
          clear hK K
          try simp only [Act.put, List.setIfInBounds_toArray, List.set_cons_zero, List.set_cons_succ]
          refine wpAnyH_ready (rs := [18]) (by kernel_rfl) (by simp) ?_
          refine AllReadyH.cons (by simp only [List.getElem?_toArray, List.getElem?_cons_zero, List.getElem?_cons_succ]; rfl) (fun K hK => ?_) ?_
          · go_simp
            refine hK.out _ _ ?_ (fun hHeld => ?_)
            · repeat (first | exact hHeld | exact HS.out | (refine VecS.alloc ?_ _) | (refine VecS.drew ?_) | (refine VecS.setCell ?_ _ _ (by show W.heap.size < _; simp; try omega)))
            clear hK K
            try simp only [Act.put, List.setIfInBounds_toArray, List.set_cons_zero, List.set_cons_succ]
            refine wpAnyH_ready (rs := [19]) (by kernel_rfl) (by simp) ?_
            refine AllReadyH.cons (by simp only [List.getElem?_toArray, List.getElem?_cons_zero, List.getElem?_cons_succ]; rfl) (fun K hK => ?_) ?_
            · go_simp
              refine hK.out _ _ ?_ (fun hHeld => ?_)
              · repeat (first | exact hHeld | exact HS.out | (refine VecS.alloc ?_ _) | (refine VecS.drew ?_) | (refine VecS.setCell ?_ _ _ (by show W.heap.size < _; simp; try omega)))
              clear hK K
              try simp only [Act.put, List.setIfInBounds_toArray, List.set_cons_zero, List.set_cons_succ]
              refine wpAnyH_ready (rs := [20]) (by kernel_rfl) (by simp) ?_
              refine AllReadyH.cons (by simp only [List.getElem?_toArray, List.getElem?_cons_zero, List.getElem?_cons_succ]; rfl) (fun K hK => ?_) ?_
              · go_simp
                refine hK.out _ _ ?_ (fun hHeld => ?_)
                · repeat (first | exact hHeld | exact HS.out | (refine VecS.alloc ?_ _) | (refine VecS.drew ?_) | (refine VecS.setCell ?_ _ _ (by show W.heap.size < _; simp; try omega)))
                clear hK K
                try simp only [Act.put, List.setIfInBounds_toArray, List.set_cons_zero, List.set_cons_succ]
                refine wpAnyH_done (by kernel_rfl) ?_ _
                go_wp2_with fail
                go_meet
                refine ⟨_, _, _, rfl, rfl, rfl, by omega, by omega, by omega, ⟨?_, ?_, ?_⟩, ⟨?_, ?_, ?_⟩, ⟨?_, ?_, ?_⟩, hHeld.box, ⟨?_, ?_, ?_⟩, fun o => ?_, hHeld.bel⟩
                all_goals first | (simp [go_sem]; done) | (simp [go_sem]; omega) | skip
              exact AllReadyH.nil
            exact AllReadyH.nil
          exact AllReadyH.nil
        exact AllReadyH.nil
      exact AllReadyH.nil
    exact AllReadyH.nil

  case rest =>
    obtain ⟨g, h, i, rfl, rfl, rfl, lg, lh, li, ⟨pg, pg0, pg1⟩, ⟨ph, ph0, ph1⟩, ⟨pi, pi0, pi1⟩, bx, ⟨pr, pr0, pr1⟩, fr, hbel⟩ := hcut
    have HR := Lib.hid (⟨bx, pr0, pr1, fr, pr, hbel⟩ : VecR W _ _ _ _ _ _ _ wc)
    have HRD := Lib.hid HR.out.drew
    have f0 := fr 0
    have f1 := fr 1
    unfold At7 at bx
    have HC := Lib.hid (fun W => extract_ok w0 n0 l w hm hw1 hlw W)
    have r1 : IntKind.i64.wrap ((w : Nat) : Int) = ((w : Nat) : Int) := by rw [IntKind.wrap_i64]; omega
    have r2 : IntKind.i64.wrap ((l : Nat) : Int) = ((l : Nat) : Int) := by rw [IntKind.wrap_i64]; omega
    clear hm hw1 hlw h64
    go_wp2_with (go_at_call 40; refine (HC.out _).mono ?_; rintro e w5 ⟨rfl, hb5⟩; have H5 := Lib.hid (HR.out.call hb5); have g0 := H5.out.r0; have g1 := H5.out.r1; have g2 := H5.out.fr 0; have g3 := H5.out.fr 1; have g4 := H5.out.l)
    exact bodyPost_ret (v := .tuple #[.agg #[.int .u8 ((w : Nat) : Int), .int .u64 ((low w (n0 / 2 ^ l) : Nat) : Int)], .int .i64 0]) (by simp [results, Try.results22, go_sem, g0, g1]) rfl ⟨rfl, (H5.out.b.setCell (Nat.le_succ _) _).setCell (Nat.le_succ _) _⟩

theorem vec_extend (w n l b : Nat) (k0 k1 k2 : Int) (w0 n0 w1 n1 w2 n2 : Nat) (W : World) (av : Value) (o : Nat) (ho : o = 23 ∨ o = 24) (hm : mayB w0 n0 = true) (hw1 : w0 ≤ w) (h64 : w ≤ 64) (HL : Hid (LookAt W b k0 k1 k2 w0 n0 w1 n1 w2 n2)) :
    Calls Try.prog 22 #[.agg #[.int .u8 ((o : Nat) : Int), .int .u8 ((w : Nat) : Int), .int .i64 k0, .int .i64 k1, .int .i64 k2, .int .u64 ((n : Nat) : Int), .int .u8 ((l : Nat) : Int)], .map (some b), av] W fun e W' => e = .returned (.tuple #[.agg #[.int .u8 ((w : Nat) : Int), .int .u64 ((low w (numE o w0 n0) : Nat) : Int)], .int .i64 0]) ∧ Below W.heap.size W W' := by
  have HS : Hid (VecS W b (.int .u8 ((o : Nat) : Int)) (.int .u8 ((w : Nat) : Int)) (.int .u64 ((n : Nat) : Int)) (.int .u8 ((l : Nat) : Int)) k0 k1 k2 w0 n0 w1 n1 w2 n2 ((W.alloc (.cells #[.int .u8 ((o : Nat) : Int), .int .u8 ((w : Nat) : Int), .int .i64 k0, .int .i64 k1, .int .i64 k2, .int .u64 ((n : Nat) : Int), .int .u8 ((l : Nat) : Int)] 62)).alloc (.cells #[.int .u8 0, .int .u64 0] 31))) :=
    VecS.alloc ⟨At7.new W _ _ _ _ _ _ _ _, HL.out.same (Below.heap_alloc _ _ _ HL.out.1) (by simp), bel_alloc (Below.refl _ _) _, HL.out.1⟩ _
  go_enter Try.func22, Try.ntmps22
  go_upto_region 1 with fail
  go_cut [8, 9, 10] (fun s8 s9 s10 wx => ∃ g h i : Nat, s8 = .pointer (some ⟨g, 0, none⟩) ∧ s9 = .pointer (some ⟨h, 0, none⟩) ∧ s10 = .pointer (some ⟨i, 0, none⟩) ∧ W.heap.size + 1 < g ∧ W.heap.size + 1 < h ∧ W.heap.size + 1 < i ∧ At2 wx g (.int .u8 ((w0 : Nat) : Int)) (.int .u64 ((n0 : Nat) : Int)) ∧ At2 wx h (.int .u8 ((w1 : Nat) : Int)) (.int .u64 ((n1 : Nat) : Int)) ∧ At2 wx i (.int .u8 ((w2 : Nat) : Int)) (.int .u64 ((n2 : Nat) : Int)) ∧ At7 wx W.heap.size (.int .u8 ((o : Nat) : Int)) (.int .u8 ((w : Nat) : Int)) (.int .i64 k0) (.int .i64 k1) (.int .i64 k2) (.int .u64 ((n : Nat) : Int)) (.int .u8 ((l : Nat) : Int)) ∧ At2 wx (W.heap.size + 1) (.int .u8 0) (.int .u64 0) ∧ (∀ o, wx.frozen? ⟨W.heap.size + 1, o, none⟩ = false) ∧ Below W.heap.size W wx)
  case first =>
    refine wp_region_held_drew (S := fun w' => VecS W b (.int .u8 ((o : Nat) : Int)) (.int .u8 ((w : Nat) : Int)) (.int .u64 ((n : Nat) : Int)) (.int .u8 ((l : Nat) : Int)) k0 k1 k2 w0 n0 w1 n1 w2 n2 w') (by kernel_rfl) HS.out.drew (fun hHeld => ?_)
    refine wpAnyH_take (i := 0) (v := .map (some b)) (by simp only [List.getElem?_toArray, List.getElem?_cons_zero]; rfl) (by kernel_rfl) (by kernel_rfl) (by kernel_rfl) (by exact fun _ _ _ h => h) (Or.inl ⟨by rfl, ?_⟩) hHeld ?_
    · intro w' hSw
      go_simp
    simp only [Act.put, List.setIfInBounds_toArray, List.set_cons_zero, List.set_cons_succ]
    refine wpAnyH_take (i := 1) (v := .pointer (some ⟨W.heap.size, 2, none⟩)) (by simp only [List.getElem?_toArray, List.getElem?_cons_zero, List.getElem?_cons_succ]; rfl) (by kernel_rfl) (by kernel_rfl) (by kernel_rfl) (by exact fun _ _ _ h => h) (Or.inl ⟨by rfl, ?_⟩) hHeld ?_
    · intro w' hSw
      go_simp
    simp only [Act.put, List.setIfInBounds_toArray, List.set_cons_zero, List.set_cons_succ]
    refine wpAnyH_take (i := 2) (v := .pointer (some ⟨W.heap.size, 2, none⟩)) (by simp only [List.getElem?_toArray, List.getElem?_cons_zero, List.getElem?_cons_succ]; rfl) (by kernel_rfl) (by kernel_rfl) (by kernel_rfl) (by exact fun _ _ _ h => h) (Or.inl ⟨by rfl, ?_⟩) hHeld ?_
    · intro w' hSw
      go_simp
    simp only [Act.put, List.setIfInBounds_toArray, List.set_cons_zero, List.set_cons_succ]
    refine wpAnyH_take (i := 3) (v := .int .i64 k0) (by simp only [List.getElem?_toArray, List.getElem?_cons_zero, List.getElem?_cons_succ]; rfl) (by kernel_rfl) (by kernel_rfl) (by kernel_rfl) (by exact fun _ _ _ h => h) (Or.inl ⟨by rfl, ?_⟩) hHeld ?_
    · intro w' hSw
      obtain ⟨f0, f1, f2, f3, f4, f5, f6, f7, f8, f9⟩ := hSw.facts; have lW := hSw.box.lt; go_simp
    simp only [Act.put, List.setIfInBounds_toArray, List.set_cons_zero, List.set_cons_succ]
    refine wpAnyH_take (i := 4) (v := .agg #[.int .u8 ((w0 : Nat) : Int), .int .u64 ((n0 : Nat) : Int)]) (by simp only [List.getElem?_toArray, List.getElem?_cons_zero, List.getElem?_cons_succ]; rfl) (by kernel_rfl) (by kernel_rfl) (by kernel_rfl) (by exact fun _ _ _ h => h) (Or.inl ⟨by rfl, ?_⟩) hHeld ?_
    · intro w' hSw
      obtain ⟨f0, f1, f2, f3, f4, f5, f6, f7, f8, f9⟩ := hSw.facts; have lW := hSw.box.lt; go_simp
    simp only [Act.put, List.setIfInBounds_toArray, List.set_cons_zero, List.set_cons_succ]
    refine wpAnyH_take (i := 5) (v := .map (some b)) (by simp only [List.getElem?_toArray, List.getElem?_cons_zero, List.getElem?_cons_succ]; rfl) (by kernel_rfl) (by kernel_rfl) (by kernel_rfl) (by exact fun _ _ _ h => h) (Or.inl ⟨by rfl, ?_⟩) hHeld ?_
    · intro w' hSw
      go_simp
    simp only [Act.put, List.setIfInBounds_toArray, List.set_cons_zero, List.set_cons_succ]
    refine wpAnyH_take (i := 6) (v := .pointer (some ⟨W.heap.size, 2, none⟩)) (by simp only [List.getElem?_toArray, List.getElem?_cons_zero, List.getElem?_cons_succ]; rfl) (by kernel_rfl) (by kernel_rfl) (by kernel_rfl) (by exact fun _ _ _ h => h) (Or.inl ⟨by rfl, ?_⟩) hHeld ?_
    · intro w' hSw
      go_simp
    simp only [Act.put, List.setIfInBounds_toArray, List.set_cons_zero, List.set_cons_succ]
    refine wpAnyH_take (i := 7) (v := .pointer (some ⟨W.heap.size, 3, none⟩)) (by simp only [List.getElem?_toArray, List.getElem?_cons_zero, List.getElem?_cons_succ]; rfl) (by kernel_rfl) (by kernel_rfl) (by kernel_rfl) (by exact fun _ _ _ h => h) (Or.inl ⟨by rfl, ?_⟩) hHeld ?_
    · intro w' hSw
      go_simp
    simp only [Act.put, List.setIfInBounds_toArray, List.set_cons_zero, List.set_cons_succ]
    refine wpAnyH_take (i := 8) (v := .int .i64 k1) (by simp only [List.getElem?_toArray, List.getElem?_cons_zero, List.getElem?_cons_succ]; rfl) (by kernel_rfl) (by kernel_rfl) (by kernel_rfl) (by exact fun _ _ _ h => h) (Or.inl ⟨by rfl, ?_⟩) hHeld ?_
    · intro w' hSw
      obtain ⟨f0, f1, f2, f3, f4, f5, f6, f7, f8, f9⟩ := hSw.facts; have lW := hSw.box.lt; go_simp
    simp only [Act.put, List.setIfInBounds_toArray, List.set_cons_zero, List.set_cons_succ]
    refine wpAnyH_take (i := 9) (v := .agg #[.int .u8 ((w1 : Nat) : Int), .int .u64 ((n1 : Nat) : Int)]) (by simp only [List.getElem?_toArray, List.getElem?_cons_zero, List.getElem?_cons_succ]; rfl) (by kernel_rfl) (by kernel_rfl) (by kernel_rfl) (by exact fun _ _ _ h => h) (Or.inl ⟨by rfl, ?_⟩) hHeld ?_
    · intro w' hSw
      obtain ⟨f0, f1, f2, f3, f4, f5, f6, f7, f8, f9⟩ := hSw.facts; have lW := hSw.box.lt; go_simp
    simp only [Act.put, List.setIfInBounds_toArray, List.set_cons_zero, List.set_cons_succ]
    refine wpAnyH_take (i := 10) (v := .map (some b)) (by simp only [List.getElem?_toArray, List.getElem?_cons_zero, List.getElem?_cons_succ]; rfl) (by kernel_rfl) (by kernel_rfl) (by kernel_rfl) (by exact fun _ _ _ h => h) (Or.inl ⟨by rfl, ?_⟩) hHeld ?_
    · intro w' hSw
      go_simp
    simp only [Act.put, List.setIfInBounds_toArray, List.set_cons_zero, List.set_cons_succ]
    refine wpAnyH_take (i := 11) (v := .pointer (some ⟨W.heap.size, 2, none⟩)) (by simp only [List.getElem?_toArray, List.getElem?_cons_zero, List.getElem?_cons_succ]; rfl) (by kernel_rfl) (by kernel_rfl) (by kernel_rfl) (by exact fun _ _ _ h => h) (Or.inl ⟨by rfl, ?_⟩) hHeld ?_
    · intro w' hSw
      go_simp
    simp only [Act.put, List.setIfInBounds_toArray, List.set_cons_zero, List.set_cons_succ]
    refine wpAnyH_take (i := 12) (v := .pointer (some ⟨W.heap.size, 4, none⟩)) (by simp only [List.getElem?_toArray, List.getElem?_cons_zero, List.getElem?_cons_succ]; rfl) (by kernel_rfl) (by kernel_rfl) (by kernel_rfl) (by exact fun _ _ _ h => h) (Or.inl ⟨by rfl, ?_⟩) hHeld ?_
    · intro w' hSw
      go_simp
    simp only [Act.put, List.setIfInBounds_toArray, List.set_cons_zero, List.set_cons_succ]
    refine wpAnyH_take (i := 13) (v := .int .i64 k2) (by simp only [List.getElem?_toArray, List.getElem?_cons_zero, List.getElem?_cons_succ]; rfl) (by kernel_rfl) (by kernel_rfl) (by kernel_rfl) (by exact fun _ _ _ h => h) (Or.inl ⟨by rfl, ?_⟩) hHeld ?_
    · intro w' hSw
      obtain ⟨f0, f1, f2, f3, f4, f5, f6, f7, f8, f9⟩ := hSw.facts; have lW := hSw.box.lt; go_simp
    simp only [Act.put, List.setIfInBounds_toArray, List.set_cons_zero, List.set_cons_succ]
    refine wpAnyH_take (i := 14) (v := .agg #[.int .u8 ((w2 : Nat) : Int), .int .u64 ((n2 : Nat) : Int)]) (by simp only [List.getElem?_toArray, List.getElem?_cons_zero, List.getElem?_cons_succ]; rfl) (by kernel_rfl) (by kernel_rfl) (by kernel_rfl) (by exact fun _ _ _ h => h) (Or.inl ⟨by rfl, ?_⟩) hHeld ?_
    · intro w' hSw
      obtain ⟨f0, f1, f2, f3, f4, f5, f6, f7, f8, f9⟩ := hSw.facts; have lW := hSw.box.lt; go_simp
    simp only [Act.put, List.setIfInBounds_toArray, List.set_cons_zero, List.set_cons_succ]
    refine wpAnyH_ready (rs := [15, 16, 17]) (by kernel_rfl) (by simp) ?_
    refine AllReadyH.cons (by simp only [List.getElem?_toArray, List.getElem?_cons_zero, List.getElem?_cons_succ]; rfl) (fun K hK => ?_) ?_
    · go_simp
      refine hK.out _ _ ?_ (fun hHeld => ?_)
      · repeat (first | exact hHeld | exact HS.out | (refine VecS.alloc ?_ _) | (refine VecS.drew ?_) | (refine VecS.setCell ?_ _ _ (by show W.heap.size < _; simp; try omega)))
      clear hK K
      try simp only [Act.put, List.setIfInBounds_toArray, List.set_cons_zero, List.set_cons_succ]
      refine wpAnyH_ready (rs := [16, 17]) (by kernel_rfl) (by simp) ?_
      refine AllReadyH.cons (by simp only [List.getElem?_toArray, List.getElem?_cons_zero, List.getElem?_cons_succ]; rfl) (fun K hK => ?_) ?_
      · go_simp
        refine hK.out _ _ ?_ (fun hHeld => ?_)
        · repeat (first | exact hHeld | exact HS.out | (refine VecS.alloc ?_ _) | (refine VecS.drew ?_) | (refine VecS.setCell ?_ _ _ (by show W.heap.size < _; simp; try omega)))
        clear hK K
        try simp only [Act.put, List.setIfInBounds_toArray, List.set_cons_zero, List.set_cons_succ]
        refine wpAnyH_ready (rs := [17]) (by kernel_rfl) (by simp) ?_
        refine AllReadyH.cons (by simp only [List.getElem?_toArray, List.getElem?_cons_zero, List.getElem?_cons_succ]; rfl) (fun K hK => ?_) ?_
        · go_simp
          refine hK.out _ _ ?_ (fun hHeld => ?_)
          · repeat (first | exact hHeld | exact HS.out | (refine VecS.alloc ?_ _) | (refine VecS.drew ?_) | (refine VecS.setCell ?_ _ _ (by show W.heap.size < _; simp; try omega)))
          clear hK K
          try simp only [Act.put, List.setIfInBounds_toArray, List.set_cons_zero, List.set_cons_succ]
          refine wpAnyH_ready (rs := [18]) (by kernel_rfl) (by simp) ?_
          refine AllReadyH.cons (by simp only [List.getElem?_toArray, List.getElem?_cons_zero, List.getElem?_cons_succ]; rfl) (fun K hK => ?_) ?_
          · go_simp
            refine hK.out _ _ ?_ (fun hHeld => ?_)
            · repeat (first | exact hHeld | exact HS.out | (refine VecS.alloc ?_ _) | (refine VecS.drew ?_) | (refine VecS.setCell ?_ _ _ (by show W.heap.size < _; simp; try omega)))
            clear hK K
            try simp only [Act.put, List.setIfInBounds_toArray, List.set_cons_zero, List.set_cons_succ]
            refine wpAnyH_ready (rs := [19]) (by kernel_rfl) (by simp) ?_
            refine AllReadyH.cons (by simp only [List.getElem?_toArray, List.getElem?_cons_zero, List.getElem?_cons_succ]; rfl) (fun K hK => ?_) ?_
            · go_simp
              refine hK.out _ _ ?_ (fun hHeld => ?_)
              · repeat (first | exact hHeld | exact HS.out | (refine VecS.alloc ?_ _) | (refine VecS.drew ?_) | (refine VecS.setCell ?_ _ _ (by show W.heap.size < _; simp; try omega)))
              clear hK K
              try simp only [Act.put, List.setIfInBounds_toArray, List.set_cons_zero, List.set_cons_succ]
              refine wpAnyH_ready (rs := [20]) (by kernel_rfl) (by simp) ?_
              refine AllReadyH.cons (by simp only [List.getElem?_toArray, List.getElem?_cons_zero, List.getElem?_cons_succ]; rfl) (fun K hK => ?_) ?_
              · go_simp
                refine hK.out _ _ ?_ (fun hHeld => ?_)
                · repeat (first | exact hHeld | exact HS.out | (refine VecS.alloc ?_ _) | (refine VecS.drew ?_) | (refine VecS.setCell ?_ _ _ (by show W.heap.size < _; simp; try omega)))
                clear hK K
                try simp only [Act.put, List.setIfInBounds_toArray, List.set_cons_zero, List.set_cons_succ]
                refine wpAnyH_done (by kernel_rfl) ?_ _
                go_wp2_with fail
                go_meet
                refine ⟨_, _, _, rfl, rfl, rfl, by omega, by omega, by omega, ⟨?_, ?_, ?_⟩, ⟨?_, ?_, ?_⟩, ⟨?_, ?_, ?_⟩, hHeld.box, ⟨?_, ?_, ?_⟩, fun o => ?_, hHeld.bel⟩
                all_goals first | (simp [go_sem]; done) | (simp [go_sem]; omega) | skip
              exact AllReadyH.nil
            exact AllReadyH.nil
          exact AllReadyH.nil
        exact AllReadyH.nil
      refine AllReadyH.cons (by simp only [List.getElem?_toArray, List.getElem?_cons_zero, List.getElem?_cons_succ]; rfl) (fun K hK => ?_) ?_
      · go_simp
        refine hK.out _ _ ?_ (fun hHeld => ?_)
        · repeat (first | exact hHeld | exact HS.out | (refine VecS.alloc ?_ _) | (refine VecS.drew ?_) | (refine VecS.setCell ?_ _ _ (by show W.heap.size < _; simp; try omega)))
        clear hK K
        try simp only [Act.put, List.setIfInBounds_toArray, List.set_cons_zero, List.set_cons_succ]
        refine wpAnyH_ready (rs := [16]) (by kernel_rfl) (by simp) ?_
        refine AllReadyH.cons (by simp only [List.getElem?_toArray, List.getElem?_cons_zero, List.getElem?_cons_succ]; rfl) (fun K hK => ?_) ?_
        · go_simp
          refine hK.out _ _ ?_ (fun hHeld => ?_)
          · repeat (first | exact hHeld | exact HS.out | (refine VecS.alloc ?_ _) | (refine VecS.drew ?_) | (refine VecS.setCell ?_ _ _ (by show W.heap.size < _; simp; try omega)))
          clear hK K
          try simp only [Act.put, List.setIfInBounds_toArray, List.set_cons_zero, List.set_cons_succ]
          refine wpAnyH_ready (rs := [18]) (by kernel_rfl) (by simp) ?_
          refine AllReadyH.cons (by simp only [List.getElem?_toArray, List.getElem?_cons_zero, List.getElem?_cons_succ]; rfl) (fun K hK => ?_) ?_
          · go_simp
            refine hK.out _ _ ?_ (fun hHeld => ?_)
            · repeat (first | exact hHeld | exact HS.out | (refine VecS.alloc ?_ _) | (refine VecS.drew ?_) | (refine VecS.setCell ?_ _ _ (by show W.heap.size < _; simp; try omega)))
            clear hK K
            try simp only [Act.put, List.setIfInBounds_toArray, List.set_cons_zero, List.set_cons_succ]
            refine wpAnyH_ready (rs := [19]) (by kernel_rfl) (by simp) ?_
            refine AllReadyH.cons (by simp only [List.getElem?_toArray, List.getElem?_cons_zero, List.getElem?_cons_succ]; rfl) (fun K hK => ?_) ?_
            · go_simp
              refine hK.out _ _ ?_ (fun hHeld => ?_)
              · repeat (first | exact hHeld | exact HS.out | (refine VecS.alloc ?_ _) | (refine VecS.drew ?_) | (refine VecS.setCell ?_ _ _ (by show W.heap.size < _; simp; try omega)))
              clear hK K
              try simp only [Act.put, List.setIfInBounds_toArray, List.set_cons_zero, List.set_cons_succ]
              refine wpAnyH_ready (rs := [20]) (by kernel_rfl) (by simp) ?_
              refine AllReadyH.cons (by simp only [List.getElem?_toArray, List.getElem?_cons_zero, List.getElem?_cons_succ]; rfl) (fun K hK => ?_) ?_
              · go_simp
                refine hK.out _ _ ?_ (fun hHeld => ?_)
                · repeat (first | exact hHeld | exact HS.out | (refine VecS.alloc ?_ _) | (refine VecS.drew ?_) | (refine VecS.setCell ?_ _ _ (by show W.heap.size < _; simp; try omega)))
                clear hK K
                try simp only [Act.put, List.setIfInBounds_toArray, List.set_cons_zero, List.set_cons_succ]
                refine wpAnyH_done (by kernel_rfl) ?_ _
                go_wp2_with fail
                go_meet
                refine ⟨_, _, _, rfl, rfl, rfl, by omega, by omega, by omega, ⟨?_, ?_, ?_⟩, ⟨?_, ?_, ?_⟩, ⟨?_, ?_, ?_⟩, hHeld.box, ⟨?_, ?_, ?_⟩, fun o => ?_, hHeld.bel⟩
                all_goals first | (simp [go_sem]; done) | (simp [go_sem]; omega) | skip
              exact AllReadyH.nil
            exact AllReadyH.nil
          exact AllReadyH.nil
        exact AllReadyH.nil
      exact AllReadyH.nil
    refine AllReadyH.cons (by simp only [List.getElem?_toArray, List.getElem?_cons_zero, List.getElem?_cons_succ]; rfl) (fun K hK => ?_) ?_
    · go_simp
      refine hK.out _ _ ?_ (fun hHeld => ?_)
      · repeat (first | exact hHeld | exact HS.out | (refine VecS.alloc ?_ _) | (refine VecS.drew ?_) | (refine VecS.setCell ?_ _ _ (by show W.heap.size < _; simp; try omega)))
      clear hK K
      try simp only [Act.put, List.setIfInBounds_toArray, List.set_cons_zero, List.set_cons_succ]
      refine wpAnyH_ready (rs := [15, 17]) (by kernel_rfl) (by simp) ?_
      refine AllReadyH.cons (by simp only [List.getElem?_toArray, List.getElem?_cons_zero, List.getElem?_cons_succ]; rfl) (fun K hK => ?_) ?_
      · go_simp
        refine hK.out _ _ ?_ (fun hHeld => ?_)
        · repeat (first | exact hHeld | exact HS.out | (refine VecS.alloc ?_ _) | (refine VecS.drew ?_) | (refine VecS.setCell ?_ _ _ (by show W.heap.size < _; simp; try omega)))
        clear hK K
        try simp only [Act.put, List.setIfInBounds_toArray, List.set_cons_zero, List.set_cons_succ]
        refine wpAnyH_ready (rs := [17]) (by kernel_rfl) (by simp) ?_
        refine AllReadyH.cons (by simp only [List.getElem?_toArray, List.getElem?_cons_zero, List.getElem?_cons_succ]; rfl) (fun K hK => ?_) ?_
        · go_simp
          refine hK.out _ _ ?_ (fun hHeld => ?_)
          · repeat (first | exact hHeld | exact HS.out | (refine VecS.alloc ?_ _) | (refine VecS.drew ?_) | (refine VecS.setCell ?_ _ _ (by show W.heap.size < _; simp; try omega)))
          clear hK K
          try simp only [Act.put, List.setIfInBounds_toArray, List.set_cons_zero, List.set_cons_succ]
          refine wpAnyH_ready (rs := [18]) (by kernel_rfl) (by simp) ?_
          refine AllReadyH.cons (by simp only [List.getElem?_toArray, List.getElem?_cons_zero, List.getElem?_cons_succ]; rfl) (fun K hK => ?_) ?_
          · go_simp
            refine hK.out _ _ ?_ (fun hHeld => ?_)
            · repeat (first | exact hHeld | exact HS.out | (refine VecS.alloc ?_ _) | (refine VecS.drew ?_) | (refine VecS.setCell ?_ _ _ (by show W.heap.size < _; simp; try omega)))
            clear hK K
            try simp only [Act.put, List.setIfInBounds_toArray, List.set_cons_zero, List.set_cons_succ]
            refine wpAnyH_ready (rs := [19]) (by kernel_rfl) (by simp) ?_
            refine AllReadyH.cons (by simp only [List.getElem?_toArray, List.getElem?_cons_zero, List.getElem?_cons_succ]; rfl) (fun K hK => ?_) ?_
            · go_simp
              refine hK.out _ _ ?_ (fun hHeld => ?_)
              · repeat (first | exact hHeld | exact HS.out | (refine VecS.alloc ?_ _) | (refine VecS.drew ?_) | (refine VecS.setCell ?_ _ _ (by show W.heap.size < _; simp; try omega)))
              clear hK K
              try simp only [Act.put, List.setIfInBounds_toArray, List.set_cons_zero, List.set_cons_succ]
              refine wpAnyH_ready (rs := [20]) (by kernel_rfl) (by simp) ?_
              refine AllReadyH.cons (by simp only [List.getElem?_toArray, List.getElem?_cons_zero, List.getElem?_cons_succ]; rfl) (fun K hK => ?_) ?_
              · go_simp
                refine hK.out _ _ ?_ (fun hHeld => ?_)
                · repeat (first | exact hHeld | exact HS.out | (refine VecS.alloc ?_ _) | (refine VecS.drew ?_) | (refine VecS.setCell ?_ _ _ (by show W.heap.size < _; simp; try omega)))
                clear hK K
                try simp only [Act.put, List.setIfInBounds_toArray, List.set_cons_zero, List.set_cons_succ]
                refine wpAnyH_done (by kernel_rfl) ?_ _
                go_wp2_with fail
                go_meet
                refine ⟨_, _, _, rfl, rfl, rfl, by omega, by omega, by omega, ⟨?_, ?_, ?_⟩, ⟨?_, ?_, ?_⟩, ⟨?_, ?_, ?_⟩, hHeld.box, ⟨?_, ?_, ?_⟩, fun o => ?_, hHeld.bel⟩
                all_goals first | (simp [go_sem]; done) | (simp [go_sem]; omega) | skip
              exact AllReadyH.nil
            exact AllReadyH.nil
          exact AllReadyH.nil
        exact AllReadyH.nil
      refine AllReadyH.cons (by simp only [List.getElem?_toArray, List.getElem?_cons_zero, List.getElem?_cons_succ]; rfl) (fun K hK => ?_) ?_
      · go_simp
        refine hK.out _ _ ?_ (fun hHeld => ?_)
        · repeat (first | exact hHeld | exact HS.out | (refine VecS.alloc ?_ _) | (refine VecS.drew ?_) | (refine VecS.setCell ?_ _ _ (by show W.heap.size < _; simp; try omega)))
        clear hK K
        try simp only [Act.put, List.setIfInBounds_toArray, List.set_cons_zero, List.set_cons_succ]
        refine wpAnyH_ready (rs := [15]) (by kernel_rfl) (by simp) ?_
        refine AllReadyH.cons (by simp only [List.getElem?_toArray, List.getElem?_cons_zero, List.getElem?_cons_succ]; rfl) (fun K hK => ?_) ?_
        · go_simp
          refine hK.out _ _ ?_ (fun hHeld => ?_)
          · repeat (first | exact hHeld | exact HS.out | (refine VecS.alloc ?_ _) | (refine VecS.drew ?_) | (refine VecS.setCell ?_ _ _ (by show W.heap.size < _; simp; try omega)))
          clear hK K
          try simp only [Act.put, List.setIfInBounds_toArray, List.set_cons_zero, List.set_cons_succ]
          refine wpAnyH_ready (rs := [18]) (by kernel_rfl) (by simp) ?_
          refine AllReadyH.cons (by simp only [List.getElem?_toArray, List.getElem?_cons_zero, List.getElem?_cons_succ]; rfl) (fun K hK => ?_) ?_
          · go_simp
            refine hK.out _ _ ?_ (fun hHeld => ?_)
            · repeat (first | exact hHeld | exact HS.out | (refine VecS.alloc ?_ _) | (refine VecS.drew ?_) | (refine VecS.setCell ?_ _ _ (by show W.heap.size < _; simp; try omega)))
            clear hK K
            try simp only [Act.put, List.setIfInBounds_toArray, List.set_cons_zero, List.set_cons_succ]
            refine wpAnyH_ready (rs := [19]) (by kernel_rfl) (by simp) ?_
            refine AllReadyH.cons (by simp only [List.getElem?_toArray, List.getElem?_cons_zero, List.getElem?_cons_succ]; rfl) (fun K hK => ?_) ?_
            · go_simp
              refine hK.out _ _ ?_ (fun hHeld => ?_)
              · repeat (first | exact hHeld | exact HS.out | (refine VecS.alloc ?_ _) | (refine VecS.drew ?_) | (refine VecS.setCell ?_ _ _ (by show W.heap.size < _; simp; try omega)))
              clear hK K
              try simp only [Act.put, List.setIfInBounds_toArray, List.set_cons_zero, List.set_cons_succ]
              refine wpAnyH_ready (rs := [20]) (by kernel_rfl) (by simp) ?_
              refine AllReadyH.cons (by simp only [List.getElem?_toArray, List.getElem?_cons_zero, List.getElem?_cons_succ]; rfl) (fun K hK => ?_) ?_
              · go_simp
                refine hK.out _ _ ?_ (fun hHeld => ?_)
                · repeat (first | exact hHeld | exact HS.out | (refine VecS.alloc ?_ _) | (refine VecS.drew ?_) | (refine VecS.setCell ?_ _ _ (by show W.heap.size < _; simp; try omega)))
                clear hK K
                try simp only [Act.put, List.setIfInBounds_toArray, List.set_cons_zero, List.set_cons_succ]
                refine wpAnyH_done (by kernel_rfl) ?_ _
                go_wp2_with fail
                go_meet
                refine ⟨_, _, _, rfl, rfl, rfl, by omega, by omega, by omega, ⟨?_, ?_, ?_⟩, ⟨?_, ?_, ?_⟩, ⟨?_, ?_, ?_⟩, hHeld.box, ⟨?_, ?_, ?_⟩, fun o => ?_, hHeld.bel⟩
                all_goals first | (simp [go_sem]; done) | (simp [go_sem]; omega) | skip
              exact AllReadyH.nil
            exact AllReadyH.nil
          exact AllReadyH.nil
        exact AllReadyH.nil
      exact AllReadyH.nil
    refine AllReadyH.cons (by simp only [List.getElem?_toArray, List.getElem?_cons_zero, List.getElem?_cons_succ]; rfl) (fun K hK => ?_) ?_
    · go_simp
      refine hK.out _ _ ?_ (fun hHeld => ?_)
      · repeat (first | exact hHeld | exact HS.out | (refine VecS.alloc ?_ _) | (refine VecS.drew ?_) | (refine VecS.setCell ?_ _ _ (by show W.heap.size < _; simp; try omega)))
      clear hK K
      try simp only [Act.put, List.setIfInBounds_toArray, List.set_cons_zero, List.set_cons_succ]
      refine wpAnyH_ready (rs := [15, 16]) (by kernel_rfl) (by simp) ?_
      refine AllReadyH.cons (by simp only [List.getElem?_toArray, List.getElem?_cons_zero, List.getElem?_cons_succ]; rfl) (fun K hK => ?_) ?_
      · go_simp
        refine hK.out _ _ ?_ (fun hHeld => ?_)
        · repeat (first | exact hHeld | exact HS.out | (refine VecS.alloc ?_ _) | (refine VecS.drew ?_) | (refine VecS.setCell ?_ _ _ (by show W.heap.size < _; simp; try omega)))
        clear hK K
        try simp only [Act.put, List.setIfInBounds_toArray, List.set_cons_zero, List.set_cons_succ]
        refine wpAnyH_ready (rs := [16]) (by kernel_rfl) (by simp) ?_
        refine AllReadyH.cons (by simp only [List.getElem?_toArray, List.getElem?_cons_zero, List.getElem?_cons_succ]; rfl) (fun K hK => ?_) ?_
        · go_simp
          refine hK.out _ _ ?_ (fun hHeld => ?_)
          · repeat (first | exact hHeld | exact HS.out | (refine VecS.alloc ?_ _) | (refine VecS.drew ?_) | (refine VecS.setCell ?_ _ _ (by show W.heap.size < _; simp; try omega)))
          clear hK K
          try simp only [Act.put, List.setIfInBounds_toArray, List.set_cons_zero, List.set_cons_succ]
          refine wpAnyH_ready (rs := [18]) (by kernel_rfl) (by simp) ?_
          refine AllReadyH.cons (by simp only [List.getElem?_toArray, List.getElem?_cons_zero, List.getElem?_cons_succ]; rfl) (fun K hK => ?_) ?_
          · go_simp
            refine hK.out _ _ ?_ (fun hHeld => ?_)
            · repeat (first | exact hHeld | exact HS.out | (refine VecS.alloc ?_ _) | (refine VecS.drew ?_) | (refine VecS.setCell ?_ _ _ (by show W.heap.size < _; simp; try omega)))
            clear hK K
            try simp only [Act.put, List.setIfInBounds_toArray, List.set_cons_zero, List.set_cons_succ]
            refine wpAnyH_ready (rs := [19]) (by kernel_rfl) (by simp) ?_
            refine AllReadyH.cons (by simp only [List.getElem?_toArray, List.getElem?_cons_zero, List.getElem?_cons_succ]; rfl) (fun K hK => ?_) ?_
            · go_simp
              refine hK.out _ _ ?_ (fun hHeld => ?_)
              · repeat (first | exact hHeld | exact HS.out | (refine VecS.alloc ?_ _) | (refine VecS.drew ?_) | (refine VecS.setCell ?_ _ _ (by show W.heap.size < _; simp; try omega)))
              clear hK K
              try simp only [Act.put, List.setIfInBounds_toArray, List.set_cons_zero, List.set_cons_succ]
              refine wpAnyH_ready (rs := [20]) (by kernel_rfl) (by simp) ?_
              refine AllReadyH.cons (by simp only [List.getElem?_toArray, List.getElem?_cons_zero, List.getElem?_cons_succ]; rfl) (fun K hK => ?_) ?_
              · go_simp
                refine hK.out _ _ ?_ (fun hHeld => ?_)
                · repeat (first | exact hHeld | exact HS.out | (refine VecS.alloc ?_ _) | (refine VecS.drew ?_) | (refine VecS.setCell ?_ _ _ (by show W.heap.size < _; simp; try omega)))
                clear hK K
                try simp only [Act.put, List.setIfInBounds_toArray, List.set_cons_zero, List.set_cons_succ]
                refine wpAnyH_done (by kernel_rfl) ?_ _
                go_wp2_with fail
                go_meet
                refine ⟨_, _, _, rfl, rfl, rfl, by omega, by omega, by omega, ⟨?_, ?_, ?_⟩, ⟨?_, ?_, ?_⟩, ⟨?_, ?_, ?_⟩, hHeld.box, ⟨?_, ?_, ?_⟩, fun o => ?_, hHeld.bel⟩
                all_goals first | (simp [go_sem]; done) | (simp [go_sem]; omega) | skip
              exact AllReadyH.nil
            exact AllReadyH.nil
          exact AllReadyH.nil
        exact AllReadyH.nil
      refine AllReadyH.cons (by simp only [List.getElem?_toArray, List.getElem?_cons_zero, List.getElem?_cons_succ]; rfl) (fun K hK => ?_) ?_
      · go_simp
        refine hK.out _ _ ?_ (fun hHeld => ?_)
        · repeat (first | exact hHeld | exact HS.out | (refine VecS.alloc ?_ _) | (refine VecS.drew ?_) | (refine VecS.setCell ?_ _ _ (by show W.heap.size < _; simp; try omega)))
        clear hK K
        try simp only [Act.put, List.setIfInBounds_toArray, List.set_cons_zero, List.set_cons_succ]
        refine wpAnyH_ready (rs := [15]) (by kernel_rfl) (by simp) ?_
        refine AllReadyH.cons (by simp only [List.getElem?_toArray, List.getElem?_cons_zero, List.getElem?_cons_succ]; rfl) (fun K hK => ?_) ?_
        · go_simp
          refine hK.out _ _ ?_ (fun hHeld => ?_)
          · repeat (first | exact hHeld | exact HS.out | (refine VecS.alloc ?_ _) | (refine VecS.drew ?_) | (refine VecS.setCell ?_ _ _ (by show W.heap.size < _; simp; try omega)))
          clear hK K
          try simp only [Act.put, List.setIfInBounds_toArray, List.set_cons_zero, List.set_cons_succ]
          refine wpAnyH_ready (rs := [18]) (by kernel_rfl) (by simp) ?_
          refine AllReadyH.cons (by simp only [List.getElem?_toArray, List.getElem?_cons_zero, List.getElem?_cons_succ]; rfl) (fun K hK => ?_) ?_
          · go_simp
            refine hK.out _ _ ?_ (fun hHeld => ?_)
            · repeat (first | exact hHeld | exact HS.out | (refine VecS.alloc ?_ _) | (refine VecS.drew ?_) | (refine VecS.setCell ?_ _ _ (by show W.heap.size < _; simp; try omega)))
            clear hK K
            try simp only [Act.put, List.setIfInBounds_toArray, List.set_cons_zero, List.set_cons_succ]
            refine wpAnyH_ready (rs := [19]) (by kernel_rfl) (by simp) ?_
            refine AllReadyH.cons (by simp only [List.getElem?_toArray, List.getElem?_cons_zero, List.getElem?_cons_succ]; rfl) (fun K hK => ?_) ?_
            · go_simp
              refine hK.out _ _ ?_ (fun hHeld => ?_)
              · repeat (first | exact hHeld | exact HS.out | (refine VecS.alloc ?_ _) | (refine VecS.drew ?_) | (refine VecS.setCell ?_ _ _ (by show W.heap.size < _; simp; try omega)))
              clear hK K
              try simp only [Act.put, List.setIfInBounds_toArray, List.set_cons_zero, List.set_cons_succ]
              refine wpAnyH_ready (rs := [20]) (by kernel_rfl) (by simp) ?_
              refine AllReadyH.cons (by simp only [List.getElem?_toArray, List.getElem?_cons_zero, List.getElem?_cons_succ]; rfl) (fun K hK => ?_) ?_
              · go_simp
                refine hK.out _ _ ?_ (fun hHeld => ?_)
                · repeat (first | exact hHeld | exact HS.out | (refine VecS.alloc ?_ _) | (refine VecS.drew ?_) | (refine VecS.setCell ?_ _ _ (by show W.heap.size < _; simp; try omega)))
                clear hK K
                try simp only [Act.put, List.setIfInBounds_toArray, List.set_cons_zero, List.set_cons_succ]
                refine wpAnyH_done (by kernel_rfl) ?_ _
                go_wp2_with fail
                go_meet
                refine ⟨_, _, _, rfl, rfl, rfl, by omega, by omega, by omega, ⟨?_, ?_, ?_⟩, ⟨?_, ?_, ?_⟩, ⟨?_, ?_, ?_⟩, hHeld.box, ⟨?_, ?_, ?_⟩, fun o => ?_, hHeld.bel⟩
                all_goals first | (simp [go_sem]; done) | (simp [go_sem]; omega) | skip
              exact AllReadyH.nil
            exact AllReadyH.nil
          exact AllReadyH.nil
        exact AllReadyH.nil
      exact AllReadyH.nil
    exact AllReadyH.nil

  case rest =>
    obtain ⟨g, h, i, rfl, rfl, rfl, lg, lh, li, ⟨pg, pg0, pg1⟩, ⟨ph, ph0, ph1⟩, ⟨pi, pi0, pi1⟩, bx, ⟨pr, pr0, pr1⟩, fr, hbel⟩ := hcut
    have HR := Lib.hid (⟨bx, pr0, pr1, fr, pr, hbel⟩ : VecR W _ _ _ _ _ _ _ wc)
    have HRD := Lib.hid HR.out.drew
    have f0 := fr 0
    have f1 := fr 1
    unfold At7 at bx
    have HC := Lib.hid (fun W => extend_ok o w0 n0 w ho hm hw1 h64 W)
    have r1 : IntKind.i64.wrap ((w : Nat) : Int) = ((w : Nat) : Int) := by rw [IntKind.wrap_i64]; omega
    have d1 : (((o : Nat) : Int) == 1) = false := by simp; omega
    have d2 : (((o : Nat) : Int) == 2) = false := by simp; omega
    have d3 : (((o : Nat) : Int) == 3) = false := by simp; omega
    have d4 : (((o : Nat) : Int) == 4) = false := by simp; omega
    have d22 : (((o : Nat) : Int) == 22) = false := by simp; omega
    clear hm hw1 h64
    rcases ho with ho | ho
    all_goals
      first | (have d23 : (((o : Nat) : Int) == 23) = true := by simp; omega) | (have d23 : (((o : Nat) : Int) == 23) = false := by simp; omega)
      first | (have d24 : (((o : Nat) : Int) == 24) = true := by simp; omega) | (have d24 : (((o : Nat) : Int) == 24) = false := by simp; omega)
      clear ho
      go_wp2_with (go_at_call 43; refine (HC.out _).mono ?_; rintro e w5 ⟨rfl, hb5⟩; have H5 := Lib.hid (HR.out.call hb5); have g0 := H5.out.r0; have g1 := H5.out.r1; have g2 := H5.out.fr 0; have g3 := H5.out.fr 1; have g4 := H5.out.l)
      exact bodyPost_ret (v := .tuple #[.agg #[.int .u8 ((w : Nat) : Int), .int .u64 ((low w (numE o w0 n0) : Nat) : Int)], .int .i64 0]) (by simp [results, Try.results22, go_sem, g0, g1]) rfl ⟨rfl, (H5.out.b.setCell (Nat.le_succ _) _).setCell (Nat.le_succ _) _⟩

theorem vec_ite (w n l b : Nat) (k0 k1 k2 : Int) (w0 n0 w1 n1 w2 n2 : Nat) (W : World) (av : Value) (r : Nat) (HC : Hid (∀ W, Calls Try.prog 44 #[.agg #[.int .u8 ((w0 : Nat) : Int), .int .u64 ((n0 : Nat) : Int)], .agg #[.int .u8 ((w1 : Nat) : Int), .int .u64 ((n1 : Nat) : Int)], .agg #[.int .u8 ((w2 : Nat) : Int), .int .u64 ((n2 : Nat) : Int)]] W fun e W' => e = .returned (.tuple #[.agg #[.int .u8 ((w1 : Nat) : Int), .int .u64 ((r : Nat) : Int)], .int .i64 0]) ∧ Below W.heap.size W W')) (HL : Hid (LookAt W b k0 k1 k2 w0 n0 w1 n1 w2 n2)) :
    Calls Try.prog 22 #[.agg #[.int .u8 25, .int .u8 ((w : Nat) : Int), .int .i64 k0, .int .i64 k1, .int .i64 k2, .int .u64 ((n : Nat) : Int), .int .u8 ((l : Nat) : Int)], .map (some b), av] W fun e W' => e = .returned (.tuple #[.agg #[.int .u8 ((w1 : Nat) : Int), .int .u64 ((r : Nat) : Int)], .int .i64 0]) ∧ Below W.heap.size W W' := by
  have HS : Hid (VecS W b (.int .u8 25) (.int .u8 ((w : Nat) : Int)) (.int .u64 ((n : Nat) : Int)) (.int .u8 ((l : Nat) : Int)) k0 k1 k2 w0 n0 w1 n1 w2 n2 ((W.alloc (.cells #[.int .u8 25, .int .u8 ((w : Nat) : Int), .int .i64 k0, .int .i64 k1, .int .i64 k2, .int .u64 ((n : Nat) : Int), .int .u8 ((l : Nat) : Int)] 62)).alloc (.cells #[.int .u8 0, .int .u64 0] 31))) :=
    VecS.alloc ⟨At7.new W _ _ _ _ _ _ _ _, HL.out.same (Below.heap_alloc _ _ _ HL.out.1) (by simp), bel_alloc (Below.refl _ _) _, HL.out.1⟩ _
  go_enter Try.func22, Try.ntmps22
  go_upto_region 1 with fail
  go_cut [8, 9, 10] (fun s8 s9 s10 wx => ∃ g h i : Nat, s8 = .pointer (some ⟨g, 0, none⟩) ∧ s9 = .pointer (some ⟨h, 0, none⟩) ∧ s10 = .pointer (some ⟨i, 0, none⟩) ∧ W.heap.size + 1 < g ∧ W.heap.size + 1 < h ∧ W.heap.size + 1 < i ∧ At2 wx g (.int .u8 ((w0 : Nat) : Int)) (.int .u64 ((n0 : Nat) : Int)) ∧ At2 wx h (.int .u8 ((w1 : Nat) : Int)) (.int .u64 ((n1 : Nat) : Int)) ∧ At2 wx i (.int .u8 ((w2 : Nat) : Int)) (.int .u64 ((n2 : Nat) : Int)) ∧ At7 wx W.heap.size (.int .u8 25) (.int .u8 ((w : Nat) : Int)) (.int .i64 k0) (.int .i64 k1) (.int .i64 k2) (.int .u64 ((n : Nat) : Int)) (.int .u8 ((l : Nat) : Int)) ∧ At2 wx (W.heap.size + 1) (.int .u8 0) (.int .u64 0) ∧ (∀ o, wx.frozen? ⟨W.heap.size + 1, o, none⟩ = false) ∧ Below W.heap.size W wx)
  case first =>
    refine wp_region_held_drew (S := fun w' => VecS W b (.int .u8 25) (.int .u8 ((w : Nat) : Int)) (.int .u64 ((n : Nat) : Int)) (.int .u8 ((l : Nat) : Int)) k0 k1 k2 w0 n0 w1 n1 w2 n2 w') (by kernel_rfl) HS.out.drew (fun hHeld => ?_)
    refine wpAnyH_take (i := 0) (v := .map (some b)) (by simp only [List.getElem?_toArray, List.getElem?_cons_zero]; rfl) (by kernel_rfl) (by kernel_rfl) (by kernel_rfl) (by exact fun _ _ _ h => h) (Or.inl ⟨by rfl, ?_⟩) hHeld ?_
    · intro w' hSw
      go_simp
    simp only [Act.put, List.setIfInBounds_toArray, List.set_cons_zero, List.set_cons_succ]
    refine wpAnyH_take (i := 1) (v := .pointer (some ⟨W.heap.size, 2, none⟩)) (by simp only [List.getElem?_toArray, List.getElem?_cons_zero, List.getElem?_cons_succ]; rfl) (by kernel_rfl) (by kernel_rfl) (by kernel_rfl) (by exact fun _ _ _ h => h) (Or.inl ⟨by rfl, ?_⟩) hHeld ?_
    · intro w' hSw
      go_simp
    simp only [Act.put, List.setIfInBounds_toArray, List.set_cons_zero, List.set_cons_succ]
    refine wpAnyH_take (i := 2) (v := .pointer (some ⟨W.heap.size, 2, none⟩)) (by simp only [List.getElem?_toArray, List.getElem?_cons_zero, List.getElem?_cons_succ]; rfl) (by kernel_rfl) (by kernel_rfl) (by kernel_rfl) (by exact fun _ _ _ h => h) (Or.inl ⟨by rfl, ?_⟩) hHeld ?_
    · intro w' hSw
      go_simp
    simp only [Act.put, List.setIfInBounds_toArray, List.set_cons_zero, List.set_cons_succ]
    refine wpAnyH_take (i := 3) (v := .int .i64 k0) (by simp only [List.getElem?_toArray, List.getElem?_cons_zero, List.getElem?_cons_succ]; rfl) (by kernel_rfl) (by kernel_rfl) (by kernel_rfl) (by exact fun _ _ _ h => h) (Or.inl ⟨by rfl, ?_⟩) hHeld ?_
    · intro w' hSw
      obtain ⟨f0, f1, f2, f3, f4, f5, f6, f7, f8, f9⟩ := hSw.facts; have lW := hSw.box.lt; go_simp
    simp only [Act.put, List.setIfInBounds_toArray, List.set_cons_zero, List.set_cons_succ]
    refine wpAnyH_take (i := 4) (v := .agg #[.int .u8 ((w0 : Nat) : Int), .int .u64 ((n0 : Nat) : Int)]) (by simp only [List.getElem?_toArray, List.getElem?_cons_zero, List.getElem?_cons_succ]; rfl) (by kernel_rfl) (by kernel_rfl) (by kernel_rfl) (by exact fun _ _ _ h => h) (Or.inl ⟨by rfl, ?_⟩) hHeld ?_
    · intro w' hSw
      obtain ⟨f0, f1, f2, f3, f4, f5, f6, f7, f8, f9⟩ := hSw.facts; have lW := hSw.box.lt; go_simp
    simp only [Act.put, List.setIfInBounds_toArray, List.set_cons_zero, List.set_cons_succ]
    refine wpAnyH_take (i := 5) (v := .map (some b)) (by simp only [List.getElem?_toArray, List.getElem?_cons_zero, List.getElem?_cons_succ]; rfl) (by kernel_rfl) (by kernel_rfl) (by kernel_rfl) (by exact fun _ _ _ h => h) (Or.inl ⟨by rfl, ?_⟩) hHeld ?_
    · intro w' hSw
      go_simp
    simp only [Act.put, List.setIfInBounds_toArray, List.set_cons_zero, List.set_cons_succ]
    refine wpAnyH_take (i := 6) (v := .pointer (some ⟨W.heap.size, 2, none⟩)) (by simp only [List.getElem?_toArray, List.getElem?_cons_zero, List.getElem?_cons_succ]; rfl) (by kernel_rfl) (by kernel_rfl) (by kernel_rfl) (by exact fun _ _ _ h => h) (Or.inl ⟨by rfl, ?_⟩) hHeld ?_
    · intro w' hSw
      go_simp
    simp only [Act.put, List.setIfInBounds_toArray, List.set_cons_zero, List.set_cons_succ]
    refine wpAnyH_take (i := 7) (v := .pointer (some ⟨W.heap.size, 3, none⟩)) (by simp only [List.getElem?_toArray, List.getElem?_cons_zero, List.getElem?_cons_succ]; rfl) (by kernel_rfl) (by kernel_rfl) (by kernel_rfl) (by exact fun _ _ _ h => h) (Or.inl ⟨by rfl, ?_⟩) hHeld ?_
    · intro w' hSw
      go_simp
    simp only [Act.put, List.setIfInBounds_toArray, List.set_cons_zero, List.set_cons_succ]
    refine wpAnyH_take (i := 8) (v := .int .i64 k1) (by simp only [List.getElem?_toArray, List.getElem?_cons_zero, List.getElem?_cons_succ]; rfl) (by kernel_rfl) (by kernel_rfl) (by kernel_rfl) (by exact fun _ _ _ h => h) (Or.inl ⟨by rfl, ?_⟩) hHeld ?_
    · intro w' hSw
      obtain ⟨f0, f1, f2, f3, f4, f5, f6, f7, f8, f9⟩ := hSw.facts; have lW := hSw.box.lt; go_simp
    simp only [Act.put, List.setIfInBounds_toArray, List.set_cons_zero, List.set_cons_succ]
    refine wpAnyH_take (i := 9) (v := .agg #[.int .u8 ((w1 : Nat) : Int), .int .u64 ((n1 : Nat) : Int)]) (by simp only [List.getElem?_toArray, List.getElem?_cons_zero, List.getElem?_cons_succ]; rfl) (by kernel_rfl) (by kernel_rfl) (by kernel_rfl) (by exact fun _ _ _ h => h) (Or.inl ⟨by rfl, ?_⟩) hHeld ?_
    · intro w' hSw
      obtain ⟨f0, f1, f2, f3, f4, f5, f6, f7, f8, f9⟩ := hSw.facts; have lW := hSw.box.lt; go_simp
    simp only [Act.put, List.setIfInBounds_toArray, List.set_cons_zero, List.set_cons_succ]
    refine wpAnyH_take (i := 10) (v := .map (some b)) (by simp only [List.getElem?_toArray, List.getElem?_cons_zero, List.getElem?_cons_succ]; rfl) (by kernel_rfl) (by kernel_rfl) (by kernel_rfl) (by exact fun _ _ _ h => h) (Or.inl ⟨by rfl, ?_⟩) hHeld ?_
    · intro w' hSw
      go_simp
    simp only [Act.put, List.setIfInBounds_toArray, List.set_cons_zero, List.set_cons_succ]
    refine wpAnyH_take (i := 11) (v := .pointer (some ⟨W.heap.size, 2, none⟩)) (by simp only [List.getElem?_toArray, List.getElem?_cons_zero, List.getElem?_cons_succ]; rfl) (by kernel_rfl) (by kernel_rfl) (by kernel_rfl) (by exact fun _ _ _ h => h) (Or.inl ⟨by rfl, ?_⟩) hHeld ?_
    · intro w' hSw
      go_simp
    simp only [Act.put, List.setIfInBounds_toArray, List.set_cons_zero, List.set_cons_succ]
    refine wpAnyH_take (i := 12) (v := .pointer (some ⟨W.heap.size, 4, none⟩)) (by simp only [List.getElem?_toArray, List.getElem?_cons_zero, List.getElem?_cons_succ]; rfl) (by kernel_rfl) (by kernel_rfl) (by kernel_rfl) (by exact fun _ _ _ h => h) (Or.inl ⟨by rfl, ?_⟩) hHeld ?_
    · intro w' hSw
      go_simp
    simp only [Act.put, List.setIfInBounds_toArray, List.set_cons_zero, List.set_cons_succ]
    refine wpAnyH_take (i := 13) (v := .int .i64 k2) (by simp only [List.getElem?_toArray, List.getElem?_cons_zero, List.getElem?_cons_succ]; rfl) (by kernel_rfl) (by kernel_rfl) (by kernel_rfl) (by exact fun _ _ _ h => h) (Or.inl ⟨by rfl, ?_⟩) hHeld ?_
    · intro w' hSw
      obtain ⟨f0, f1, f2, f3, f4, f5, f6, f7, f8, f9⟩ := hSw.facts; have lW := hSw.box.lt; go_simp
    simp only [Act.put, List.setIfInBounds_toArray, List.set_cons_zero, List.set_cons_succ]
    refine wpAnyH_take (i := 14) (v := .agg #[.int .u8 ((w2 : Nat) : Int), .int .u64 ((n2 : Nat) : Int)]) (by simp only [List.getElem?_toArray, List.getElem?_cons_zero, List.getElem?_cons_succ]; rfl) (by kernel_rfl) (by kernel_rfl) (by kernel_rfl) (by exact fun _ _ _ h => h) (Or.inl ⟨by rfl, ?_⟩) hHeld ?_
    · intro w' hSw
      obtain ⟨f0, f1, f2, f3, f4, f5, f6, f7, f8, f9⟩ := hSw.facts; have lW := hSw.box.lt; go_simp
    simp only [Act.put, List.setIfInBounds_toArray, List.set_cons_zero, List.set_cons_succ]
    refine wpAnyH_ready (rs := [15, 16, 17]) (by kernel_rfl) (by simp) ?_
    refine AllReadyH.cons (by simp only [List.getElem?_toArray, List.getElem?_cons_zero, List.getElem?_cons_succ]; rfl) (fun K hK => ?_) ?_
    · go_simp
      refine hK.out _ _ ?_ (fun hHeld => ?_)
      · repeat (first | exact hHeld | exact HS.out | (refine VecS.alloc ?_ _) | (refine VecS.drew ?_) | (refine VecS.setCell ?_ _ _ (by show W.heap.size < _; simp; try omega)))
      clear hK K
      try simp only [Act.put, List.setIfInBounds_toArray, List.set_cons_zero, List.set_cons_succ]
      refine wpAnyH_ready (rs := [16, 17]) (by kernel_rfl) (by simp) ?_
      refine AllReadyH.cons (by simp only [List.getElem?_toArray, List.getElem?_cons_zero, List.getElem?_cons_succ]; rfl) (fun K hK => ?_) ?_
      · go_simp
        refine hK.out _ _ ?_ (fun hHeld => ?_)
        · repeat (first | exact hHeld | exact HS.out | (refine VecS.alloc ?_ _) | (refine VecS.drew ?_) | (refine VecS.setCell ?_ _ _ (by show W.heap.size < _; simp; try omega)))
        clear hK K
        try simp only [Act.put, List.setIfInBounds_toArray, List.set_cons_zero, List.set_cons_succ]
        refine wpAnyH_ready (rs := [17]) (by kernel_rfl) (by simp) ?_
        refine AllReadyH.cons (by simp only [List.getElem?_toArray, List.getElem?_cons_zero, List.getElem?_cons_succ]; rfl) (fun K hK => ?_) ?_
        · go_simp
          refine hK.out _ _ ?_ (fun hHeld => ?_)
          · repeat (first | exact hHeld | exact HS.out | (refine VecS.alloc ?_ _) | (refine VecS.drew ?_) | (refine VecS.setCell ?_ _ _ (by show W.heap.size < _; simp; try omega)))
          clear hK K
          try simp only [Act.put, List.setIfInBounds_toArray, List.set_cons_zero, List.set_cons_succ]
          refine wpAnyH_ready (rs := [18]) (by kernel_rfl) (by simp) ?_
          refine AllReadyH.cons (by simp only [List.getElem?_toArray, List.getElem?_cons_zero, List.getElem?_cons_succ]; rfl) (fun K hK => ?_) ?_
          · go_simp
            refine hK.out _ _ ?_ (fun hHeld => ?_)
            · repeat (first | exact hHeld | exact HS.out | (refine VecS.alloc ?_ _) | (refine VecS.drew ?_) | (refine VecS.setCell ?_ _ _ (by show W.heap.size < _; simp; try omega)))
            clear hK K
            try simp only [Act.put, List.setIfInBounds_toArray, List.set_cons_zero, List.set_cons_succ]
            refine wpAnyH_ready (rs := [19]) (by kernel_rfl) (by simp) ?_
            refine AllReadyH.cons (by simp only [List.getElem?_toArray, List.getElem?_cons_zero, List.getElem?_cons_succ]; rfl) (fun K hK => ?_) ?_
            · go_simp
              refine hK.out _ _ ?_ (fun hHeld => ?_)
              · repeat (first | exact hHeld | exact HS.out | (refine VecS.alloc ?_ _) | (refine VecS.drew ?_) | (refine VecS.setCell ?_ _ _ (by show W.heap.size < _; simp; try omega)))
              clear hK K
              try simp only [Act.put, List.setIfInBounds_toArray, List.set_cons_zero, List.set_cons_succ]
              refine wpAnyH_ready (rs := [20]) (by kernel_rfl) (by simp) ?_
              refine AllReadyH.cons (by simp only [List.getElem?_toArray, List.getElem?_cons_zero, List.getElem?_cons_succ]; rfl) (fun K hK => ?_) ?_
              · go_simp
                refine hK.out _ _ ?_ (fun hHeld => ?_)
                · repeat (first | exact hHeld | exact HS.out | (refine VecS.alloc ?_ _) | (refine VecS.drew ?_) | (refine VecS.setCell ?_ _ _ (by show W.heap.size < _; simp; try omega)))
                clear hK K
                try simp only [Act.put, List.setIfInBounds_toArray, List.set_cons_zero, List.set_cons_succ]
                refine wpAnyH_done (by kernel_rfl) ?_ _
                go_wp2_with fail
                go_meet
                refine ⟨_, _, _, rfl, rfl, rfl, by omega, by omega, by omega, ⟨?_, ?_, ?_⟩, ⟨?_, ?_, ?_⟩, ⟨?_, ?_, ?_⟩, hHeld.box, ⟨?_, ?_, ?_⟩, fun o => ?_, hHeld.bel⟩
                all_goals first | (simp [go_sem]; done) | (simp [go_sem]; omega) | skip
              exact AllReadyH.nil
            exact AllReadyH.nil
          exact AllReadyH.nil
        exact AllReadyH.nil
      refine AllReadyH.cons (by simp only [List.getElem?_toArray, List.getElem?_cons_zero, List.getElem?_cons_succ]; rfl) (fun K hK => ?_) ?_
      · go_simp
        refine hK.out _ _ ?_ (fun hHeld => ?_)
        · repeat (first | exact hHeld | exact HS.out | (refine VecS.alloc ?_ _) | (refine VecS.drew ?_) | (refine VecS.setCell ?_ _ _ (by show W.heap.size < _; simp; try omega)))
        clear hK K
        try simp only [Act.put, List.setIfInBounds_toArray, List.set_cons_zero, List.set_cons_succ]
        refine wpAnyH_ready (rs := [16]) (by kernel_rfl) (by simp) ?_
        refine AllReadyH.cons (by simp only [List.getElem?_toArray, List.getElem?_cons_zero, List.getElem?_cons_succ]; rfl) (fun K hK => ?_) ?_
        · go_simp
          refine hK.out _ _ ?_ (fun hHeld => ?_)
          · repeat (first | exact hHeld | exact HS.out | (refine VecS.alloc ?_ _) | (refine VecS.drew ?_) | (refine VecS.setCell ?_ _ _ (by show W.heap.size < _; simp; try omega)))
          clear hK K
          try simp only [Act.put, List.setIfInBounds_toArray, List.set_cons_zero, List.set_cons_succ]
          refine wpAnyH_ready (rs := [18]) (by kernel_rfl) (by simp) ?_
          refine AllReadyH.cons (by simp only [List.getElem?_toArray, List.getElem?_cons_zero, List.getElem?_cons_succ]; rfl) (fun K hK => ?_) ?_
          · go_simp
            refine hK.out _ _ ?_ (fun hHeld => ?_)
            · repeat (first | exact hHeld | exact HS.out | (refine VecS.alloc ?_ _) | (refine VecS.drew ?_) | (refine VecS.setCell ?_ _ _ (by show W.heap.size < _; simp; try omega)))
            clear hK K
            try simp only [Act.put, List.setIfInBounds_toArray, List.set_cons_zero, List.set_cons_succ]
            refine wpAnyH_ready (rs := [19]) (by kernel_rfl) (by simp) ?_
            refine AllReadyH.cons (by simp only [List.getElem?_toArray, List.getElem?_cons_zero, List.getElem?_cons_succ]; rfl) (fun K hK => ?_) ?_
            · go_simp
              refine hK.out _ _ ?_ (fun hHeld => ?_)
              · repeat (first | exact hHeld | exact HS.out | (refine VecS.alloc ?_ _) | (refine VecS.drew ?_) | (refine VecS.setCell ?_ _ _ (by show W.heap.size < _; simp; try omega)))
              clear hK K
              try simp only [Act.put, List.setIfInBounds_toArray, List.set_cons_zero, List.set_cons_succ]
              refine wpAnyH_ready (rs := [20]) (by kernel_rfl) (by simp) ?_
              refine AllReadyH.cons (by simp only [List.getElem?_toArray, List.getElem?_cons_zero, List.getElem?_cons_succ]; rfl) (fun K hK => ?_) ?_
              · go_simp
                refine hK.out _ _ ?_ (fun hHeld => ?_)
                · repeat (first | exact hHeld | exact HS.out | (refine VecS.alloc ?_ _) | (refine VecS.drew ?_) | (refine VecS.setCell ?_ _ _ (by show W.heap.size < _; simp; try omega)))
                clear hK K
                try simp only [Act.put, List.setIfInBounds_toArray, List.set_cons_zero, List.set_cons_succ]
                refine wpAnyH_done (by kernel_rfl) ?_ _
                go_wp2_with fail
                go_meet
                refine ⟨_, _, _, rfl, rfl, rfl, by omega, by omega, by omega, ⟨?_, ?_, ?_⟩, ⟨?_, ?_, ?_⟩, ⟨?_, ?_, ?_⟩, hHeld.box, ⟨?_, ?_, ?_⟩, fun o => ?_, hHeld.bel⟩
                all_goals first | (simp [go_sem]; done) | (simp [go_sem]; omega) | skip
              exact AllReadyH.nil
            exact AllReadyH.nil
          exact AllReadyH.nil
        exact AllReadyH.nil
      exact AllReadyH.nil
    refine AllReadyH.cons (by simp only [List.getElem?_toArray, List.getElem?_cons_zero, List.getElem?_cons_succ]; rfl) (fun K hK => ?_) ?_
    · go_simp
      refine hK.out _ _ ?_ (fun hHeld => ?_)
      · repeat (first | exact hHeld | exact HS.out | (refine VecS.alloc ?_ _) | (refine VecS.drew ?_) | (refine VecS.setCell ?_ _ _ (by show W.heap.size < _; simp; try omega)))
      clear hK K
      try simp only [Act.put, List.setIfInBounds_toArray, List.set_cons_zero, List.set_cons_succ]
      refine wpAnyH_ready (rs := [15, 17]) (by kernel_rfl) (by simp) ?_
      refine AllReadyH.cons (by simp only [List.getElem?_toArray, List.getElem?_cons_zero, List.getElem?_cons_succ]; rfl) (fun K hK => ?_) ?_
      · go_simp
        refine hK.out _ _ ?_ (fun hHeld => ?_)
        · repeat (first | exact hHeld | exact HS.out | (refine VecS.alloc ?_ _) | (refine VecS.drew ?_) | (refine VecS.setCell ?_ _ _ (by show W.heap.size < _; simp; try omega)))
        clear hK K
        try simp only [Act.put, List.setIfInBounds_toArray, List.set_cons_zero, List.set_cons_succ]
        refine wpAnyH_ready (rs := [17]) (by kernel_rfl) (by simp) ?_
        refine AllReadyH.cons (by simp only [List.getElem?_toArray, List.getElem?_cons_zero, List.getElem?_cons_succ]; rfl) (fun K hK => ?_) ?_
        · go_simp
          refine hK.out _ _ ?_ (fun hHeld => ?_)
          · repeat (first | exact hHeld | exact HS.out | (refine VecS.alloc ?_ _) | (refine VecS.drew ?_) | (refine VecS.setCell ?_ _ _ (by show W.heap.size < _; simp; try omega)))
          clear hK K
          try simp only [Act.put, List.setIfInBounds_toArray, List.set_cons_zero, List.set_cons_succ]
          refine wpAnyH_ready (rs := [18]) (by kernel_rfl) (by simp) ?_
          refine AllReadyH.cons (by simp only [List.getElem?_toArray, List.getElem?_cons_zero, List.getElem?_cons_succ]; rfl) (fun K hK => ?_) ?_
          · go_simp
            refine hK.out _ _ ?_ (fun hHeld => ?_)
            · repeat (first | exact hHeld | exact HS.out | (refine VecS.alloc ?_ _) | (refine VecS.drew ?_) | (refine VecS.setCell ?_ _ _ (by show W.heap.size < _; simp; try omega)))
            clear hK K
            try simp only [Act.put, List.setIfInBounds_toArray, List.set_cons_zero, List.set_cons_succ]
            refine wpAnyH_ready (rs := [19]) (by kernel_rfl) (by simp) ?_
            refine AllReadyH.cons (by simp only [List.getElem?_toArray, List.getElem?_cons_zero, List.getElem?_cons_succ]; rfl) (fun K hK => ?_) ?_
            · go_simp
              refine hK.out _ _ ?_ (fun hHeld => ?_)
              · repeat (first | exact hHeld | exact HS.out | (refine VecS.alloc ?_ _) | (refine VecS.drew ?_) | (refine VecS.setCell ?_ _ _ (by show W.heap.size < _; simp; try omega)))
              clear hK K
              try simp only [Act.put, List.setIfInBounds_toArray, List.set_cons_zero, List.set_cons_succ]
              refine wpAnyH_ready (rs := [20]) (by kernel_rfl) (by simp) ?_
              refine AllReadyH.cons (by simp only [List.getElem?_toArray, List.getElem?_cons_zero, List.getElem?_cons_succ]; rfl) (fun K hK => ?_) ?_
              · go_simp
                refine hK.out _ _ ?_ (fun hHeld => ?_)
                · repeat (first | exact hHeld | exact HS.out | (refine VecS.alloc ?_ _) | (refine VecS.drew ?_) | (refine VecS.setCell ?_ _ _ (by show W.heap.size < _; simp; try omega)))
                clear hK K
                try simp only [Act.put, List.setIfInBounds_toArray, List.set_cons_zero, List.set_cons_succ]
                refine wpAnyH_done (by kernel_rfl) ?_ _
                go_wp2_with fail
                go_meet
                refine ⟨_, _, _, rfl, rfl, rfl, by omega, by omega, by omega, ⟨?_, ?_, ?_⟩, ⟨?_, ?_, ?_⟩, ⟨?_, ?_, ?_⟩, hHeld.box, ⟨?_, ?_, ?_⟩, fun o => ?_, hHeld.bel⟩
                all_goals first | (simp [go_sem]; done) | (simp [go_sem]; omega) | skip
              exact AllReadyH.nil
            exact AllReadyH.nil
          exact AllReadyH.nil
        exact AllReadyH.nil
      refine AllReadyH.cons (by simp only [List.getElem?_toArray, List.getElem?_cons_zero, List.getElem?_cons_succ]; rfl) (fun K hK => ?_) ?_
      · go_simp
        refine hK.out _ _ ?_ (fun hHeld => ?_)
        · repeat (first | exact hHeld | exact HS.out | (refine VecS.alloc ?_ _) | (refine VecS.drew ?_) | (refine VecS.setCell ?_ _ _ (by show W.heap.size < _; simp; try omega)))
        clear hK K
        try simp only [Act.put, List.setIfInBounds_toArray, List.set_cons_zero, List.set_cons_succ]
        refine wpAnyH_ready (rs := [15]) (by kernel_rfl) (by simp) ?_
        refine AllReadyH.cons (by simp only [List.getElem?_toArray, List.getElem?_cons_zero, List.getElem?_cons_succ]; rfl) (fun K hK => ?_) ?_
        · go_simp
          refine hK.out _ _ ?_ (fun hHeld => ?_)
          · repeat (first | exact hHeld | exact HS.out | (refine VecS.alloc ?_ _) | (refine VecS.drew ?_) | (refine VecS.setCell ?_ _ _ (by show W.heap.size < _; simp; try omega)))
          clear hK K
          try simp only [Act.put, List.setIfInBounds_toArray, List.set_cons_zero, List.set_cons_succ]
          refine wpAnyH_ready (rs := [18]) (by kernel_rfl) (by simp) ?_
          refine AllReadyH.cons (by simp only [List.getElem?_toArray, List.getElem?_cons_zero, List.getElem?_cons_succ]; rfl) (fun K hK => ?_) ?_
          · go_simp
            refine hK.out _ _ ?_ (fun hHeld => ?_)
            · repeat (first | exact hHeld | exact HS.out | (refine VecS.alloc ?_ _) | (refine VecS.drew ?_) | (refine VecS.setCell ?_ _ _ (by show W.heap.size < _; simp; try omega)))
            clear hK K
            try simp only [Act.put, List.setIfInBounds_toArray, List.set_cons_zero, List.set_cons_succ]
            refine wpAnyH_ready (rs := [19]) (by kernel_rfl) (by simp) ?_
            refine AllReadyH.cons (by simp only [List.getElem?_toArray, List.getElem?_cons_zero, List.getElem?_cons_succ]; rfl) (fun K hK => ?_) ?_
            · go_simp
              refine hK.out _ _ ?_ (fun hHeld => ?_)
              · repeat (first | exact hHeld | exact HS.out | (refine VecS.alloc ?_ _) | (refine VecS.drew ?_) | (refine VecS.setCell ?_ _ _ (by show W.heap.size < _; simp; try omega)))
              clear hK K
              try simp only [Act.put, List.setIfInBounds_toArray, List.set_cons_zero, List.set_cons_succ]
              refine wpAnyH_ready (rs := [20]) (by kernel_rfl) (by simp) ?_
              refine AllReadyH.cons (by simp only [List.getElem?_toArray, List.getElem?_cons_zero, List.getElem?_cons_succ]; rfl) (fun K hK => ?_) ?_
              · go_simp
                refine hK.out _ _ ?_ (fun hHeld => ?_)
                · repeat (first | exact hHeld | exact HS.out | (refine VecS.alloc ?_ _) | (refine VecS.drew ?_) | (refine VecS.setCell ?_ _ _ (by show W.heap.size < _; simp; try omega)))
                clear hK K
                try simp only [Act.put, List.setIfInBounds_toArray, List.set_cons_zero, List.set_cons_succ]
                refine wpAnyH_done (by kernel_rfl) ?_ _
                go_wp2_with fail
                go_meet
                refine ⟨_, _, _, rfl, rfl, rfl, by omega, by omega, by omega, ⟨?_, ?_, ?_⟩, ⟨?_, ?_, ?_⟩, ⟨?_, ?_, ?_⟩, hHeld.box, ⟨?_, ?_, ?_⟩, fun o => ?_, hHeld.bel⟩
                all_goals first | (simp [go_sem]; done) | (simp [go_sem]; omega) | skip
              exact AllReadyH.nil
            exact AllReadyH.nil
          exact AllReadyH.nil
        exact AllReadyH.nil
      exact AllReadyH.nil
    refine AllReadyH.cons (by simp only [List.getElem?_toArray, List.getElem?_cons_zero, List.getElem?_cons_succ]; rfl) (fun K hK => ?_) ?_
    · go_simp
      refine hK.out _ _ ?_ (fun hHeld => ?_)
      · repeat (first | exact hHeld | exact HS.out | (refine VecS.alloc ?_ _) | (refine VecS.drew ?_) | (refine VecS.setCell ?_ _ _ (by show W.heap.size < _; simp; try omega)))
      clear hK K
      try simp only [Act.put, List.setIfInBounds_toArray, List.set_cons_zero, List.set_cons_succ]
      refine wpAnyH_ready (rs := [15, 16]) (by kernel_rfl) (by simp) ?_
      refine AllReadyH.cons (by simp only [List.getElem?_toArray, List.getElem?_cons_zero, List.getElem?_cons_succ]; rfl) (fun K hK => ?_) ?_
      · go_simp
        refine hK.out _ _ ?_ (fun hHeld => ?_)
        · repeat (first | exact hHeld | exact HS.out | (refine VecS.alloc ?_ _) | (refine VecS.drew ?_) | (refine VecS.setCell ?_ _ _ (by show W.heap.size < _; simp; try omega)))
        clear hK K
        try simp only [Act.put, List.setIfInBounds_toArray, List.set_cons_zero, List.set_cons_succ]
        refine wpAnyH_ready (rs := [16]) (by kernel_rfl) (by simp) ?_
        refine AllReadyH.cons (by simp only [List.getElem?_toArray, List.getElem?_cons_zero, List.getElem?_cons_succ]; rfl) (fun K hK => ?_) ?_
        · go_simp
          refine hK.out _ _ ?_ (fun hHeld => ?_)
          · repeat (first | exact hHeld | exact HS.out | (refine VecS.alloc ?_ _) | (refine VecS.drew ?_) | (refine VecS.setCell ?_ _ _ (by show W.heap.size < _; simp; try omega)))
          clear hK K
          try simp only [Act.put, List.setIfInBounds_toArray, List.set_cons_zero, List.set_cons_succ]
          refine wpAnyH_ready (rs := [18]) (by kernel_rfl) (by simp) ?_
          refine AllReadyH.cons (by simp only [List.getElem?_toArray, List.getElem?_cons_zero, List.getElem?_cons_succ]; rfl) (fun K hK => ?_) ?_
          · go_simp
            refine hK.out _ _ ?_ (fun hHeld => ?_)
            · repeat (first | exact hHeld | exact HS.out | (refine VecS.alloc ?_ _) | (refine VecS.drew ?_) | (refine VecS.setCell ?_ _ _ (by show W.heap.size < _; simp; try omega)))
            clear hK K
            try simp only [Act.put, List.setIfInBounds_toArray, List.set_cons_zero, List.set_cons_succ]
            refine wpAnyH_ready (rs := [19]) (by kernel_rfl) (by simp) ?_
            refine AllReadyH.cons (by simp only [List.getElem?_toArray, List.getElem?_cons_zero, List.getElem?_cons_succ]; rfl) (fun K hK => ?_) ?_
            · go_simp
              refine hK.out _ _ ?_ (fun hHeld => ?_)
              · repeat (first | exact hHeld | exact HS.out | (refine VecS.alloc ?_ _) | (refine VecS.drew ?_) | (refine VecS.setCell ?_ _ _ (by show W.heap.size < _; simp; try omega)))
              clear hK K
              try simp only [Act.put, List.setIfInBounds_toArray, List.set_cons_zero, List.set_cons_succ]
              refine wpAnyH_ready (rs := [20]) (by kernel_rfl) (by simp) ?_
              refine AllReadyH.cons (by simp only [List.getElem?_toArray, List.getElem?_cons_zero, List.getElem?_cons_succ]; rfl) (fun K hK => ?_) ?_
              · go_simp
                refine hK.out _ _ ?_ (fun hHeld => ?_)
                · repeat (first | exact hHeld | exact HS.out | (refine VecS.alloc ?_ _) | (refine VecS.drew ?_) | (refine VecS.setCell ?_ _ _ (by show W.heap.size < _; simp; try omega)))
                clear hK K
                try simp only [Act.put, List.setIfInBounds_toArray, List.set_cons_zero, List.set_cons_succ]
                refine wpAnyH_done (by kernel_rfl) ?_ _
                go_wp2_with fail
                go_meet
                refine ⟨_, _, _, rfl, rfl, rfl, by omega, by omega, by omega, ⟨?_, ?_, ?_⟩, ⟨?_, ?_, ?_⟩, ⟨?_, ?_, ?_⟩, hHeld.box, ⟨?_, ?_, ?_⟩, fun o => ?_, hHeld.bel⟩
                all_goals first | (simp [go_sem]; done) | (simp [go_sem]; omega) | skip
              exact AllReadyH.nil
            exact AllReadyH.nil
          exact AllReadyH.nil
        exact AllReadyH.nil
      refine AllReadyH.cons (by simp only [List.getElem?_toArray, List.getElem?_cons_zero, List.getElem?_cons_succ]; rfl) (fun K hK => ?_) ?_
      · go_simp
        refine hK.out _ _ ?_ (fun hHeld => ?_)
        · repeat (first | exact hHeld | exact HS.out | (refine VecS.alloc ?_ _) | (refine VecS.drew ?_) | (refine VecS.setCell ?_ _ _ (by show W.heap.size < _; simp; try omega)))
        clear hK K
        try simp only [Act.put, List.setIfInBounds_toArray, List.set_cons_zero, List.set_cons_succ]
        refine wpAnyH_ready (rs := [15]) (by kernel_rfl) (by simp) ?_
        refine AllReadyH.cons (by simp only [List.getElem?_toArray, List.getElem?_cons_zero, List.getElem?_cons_succ]; rfl) (fun K hK => ?_) ?_
        · go_simp
          refine hK.out _ _ ?_ (fun hHeld => ?_)
          · repeat (first | exact hHeld | exact HS.out | (refine VecS.alloc ?_ _) | (refine VecS.drew ?_) | (refine VecS.setCell ?_ _ _ (by show W.heap.size < _; simp; try omega)))
          clear hK K
          try simp only [Act.put, List.setIfInBounds_toArray, List.set_cons_zero, List.set_cons_succ]
          refine wpAnyH_ready (rs := [18]) (by kernel_rfl) (by simp) ?_
          refine AllReadyH.cons (by simp only [List.getElem?_toArray, List.getElem?_cons_zero, List.getElem?_cons_succ]; rfl) (fun K hK => ?_) ?_
          · go_simp
            refine hK.out _ _ ?_ (fun hHeld => ?_)
            · repeat (first | exact hHeld | exact HS.out | (refine VecS.alloc ?_ _) | (refine VecS.drew ?_) | (refine VecS.setCell ?_ _ _ (by show W.heap.size < _; simp; try omega)))
            clear hK K
            try simp only [Act.put, List.setIfInBounds_toArray, List.set_cons_zero, List.set_cons_succ]
            refine wpAnyH_ready (rs := [19]) (by kernel_rfl) (by simp) ?_
            refine AllReadyH.cons (by simp only [List.getElem?_toArray, List.getElem?_cons_zero, List.getElem?_cons_succ]; rfl) (fun K hK => ?_) ?_
            · go_simp
              refine hK.out _ _ ?_ (fun hHeld => ?_)
              · repeat (first | exact hHeld | exact HS.out | (refine VecS.alloc ?_ _) | (refine VecS.drew ?_) | (refine VecS.setCell ?_ _ _ (by show W.heap.size < _; simp; try omega)))
              clear hK K
              try simp only [Act.put, List.setIfInBounds_toArray, List.set_cons_zero, List.set_cons_succ]
              refine wpAnyH_ready (rs := [20]) (by kernel_rfl) (by simp) ?_
              refine AllReadyH.cons (by simp only [List.getElem?_toArray, List.getElem?_cons_zero, List.getElem?_cons_succ]; rfl) (fun K hK => ?_) ?_
              · go_simp
                refine hK.out _ _ ?_ (fun hHeld => ?_)
                · repeat (first | exact hHeld | exact HS.out | (refine VecS.alloc ?_ _) | (refine VecS.drew ?_) | (refine VecS.setCell ?_ _ _ (by show W.heap.size < _; simp; try omega)))
                clear hK K
                try simp only [Act.put, List.setIfInBounds_toArray, List.set_cons_zero, List.set_cons_succ]
                refine wpAnyH_done (by kernel_rfl) ?_ _
                go_wp2_with fail
                go_meet
                refine ⟨_, _, _, rfl, rfl, rfl, by omega, by omega, by omega, ⟨?_, ?_, ?_⟩, ⟨?_, ?_, ?_⟩, ⟨?_, ?_, ?_⟩, hHeld.box, ⟨?_, ?_, ?_⟩, fun o => ?_, hHeld.bel⟩
                all_goals first | (simp [go_sem]; done) | (simp [go_sem]; omega) | skip
              exact AllReadyH.nil
            exact AllReadyH.nil
          exact AllReadyH.nil
        exact AllReadyH.nil
      exact AllReadyH.nil
    exact AllReadyH.nil

  case rest =>
    obtain ⟨g, h, i, rfl, rfl, rfl, lg, lh, li, ⟨pg, pg0, pg1⟩, ⟨ph, ph0, ph1⟩, ⟨pi, pi0, pi1⟩, bx, ⟨pr, pr0, pr1⟩, fr, hbel⟩ := hcut
    have HR := Lib.hid (⟨bx, pr0, pr1, fr, pr, hbel⟩ : VecR W _ _ _ _ _ _ _ wc)
    have HRD := Lib.hid HR.out.drew
    have f0 := fr 0
    have f1 := fr 1
    unfold At7 at bx
    go_wp2_with (go_at_call 44; refine (HC.out _).mono ?_; rintro e w5 ⟨rfl, hb5⟩; have H5 := Lib.hid (HR.out.call hb5); have g0 := H5.out.r0; have g1 := H5.out.r1; have g2 := H5.out.fr 0; have g3 := H5.out.fr 1; have g4 := H5.out.l)
    exact bodyPost_ret (v := .tuple #[.agg #[.int .u8 ((w1 : Nat) : Int), .int .u64 ((r : Nat) : Int)], .int .i64 0]) (by simp [results, Try.results22, go_sem, g0, g1]) rfl ⟨rfl, (H5.out.b.setCell (Nat.le_succ _) _).setCell (Nat.le_succ _) _⟩

theorem vec_binary (w n l b : Nat) (k0 k1 k2 : Int) (w0 n0 w1 n1 w2 n2 : Nat) (W : World) (av : Value) (o : Nat) (ho : 5 ≤ o ∧ o ≤ 21) (hm : mayB w0 n0 = true) (hm2 : mayB w1 n1 = true) (hr : ¬ widthB o w0 w1 = 0) (HL : Hid (LookAt W b k0 k1 k2 w0 n0 w1 n1 w2 n2)) :
    Calls Try.prog 22 #[.agg #[.int .u8 ((o : Nat) : Int), .int .u8 ((w : Nat) : Int), .int .i64 k0, .int .i64 k1, .int .i64 k2, .int .u64 ((n : Nat) : Int), .int .u8 ((l : Nat) : Int)], .map (some b), av] W fun e W' => e = .returned (.tuple #[.agg #[.int .u8 ((widthB o w0 w1 : Nat) : Int), .int .u64 ((low (widthB o w0 w1) (numB o w0 w1 n0 n1) : Nat) : Int)], .int .i64 0]) ∧ Below W.heap.size W W' := by
  have HS : Hid (VecS W b (.int .u8 ((o : Nat) : Int)) (.int .u8 ((w : Nat) : Int)) (.int .u64 ((n : Nat) : Int)) (.int .u8 ((l : Nat) : Int)) k0 k1 k2 w0 n0 w1 n1 w2 n2 ((W.alloc (.cells #[.int .u8 ((o : Nat) : Int), .int .u8 ((w : Nat) : Int), .int .i64 k0, .int .i64 k1, .int .i64 k2, .int .u64 ((n : Nat) : Int), .int .u8 ((l : Nat) : Int)] 62)).alloc (.cells #[.int .u8 0, .int .u64 0] 31))) :=
    VecS.alloc ⟨At7.new W _ _ _ _ _ _ _ _, HL.out.same (Below.heap_alloc _ _ _ HL.out.1) (by simp), bel_alloc (Below.refl _ _) _, HL.out.1⟩ _
  go_enter Try.func22, Try.ntmps22
  go_upto_region 1 with fail
  go_cut [8, 9, 10] (fun s8 s9 s10 wx => ∃ g h i : Nat, s8 = .pointer (some ⟨g, 0, none⟩) ∧ s9 = .pointer (some ⟨h, 0, none⟩) ∧ s10 = .pointer (some ⟨i, 0, none⟩) ∧ W.heap.size + 1 < g ∧ W.heap.size + 1 < h ∧ W.heap.size + 1 < i ∧ At2 wx g (.int .u8 ((w0 : Nat) : Int)) (.int .u64 ((n0 : Nat) : Int)) ∧ At2 wx h (.int .u8 ((w1 : Nat) : Int)) (.int .u64 ((n1 : Nat) : Int)) ∧ At2 wx i (.int .u8 ((w2 : Nat) : Int)) (.int .u64 ((n2 : Nat) : Int)) ∧ At7 wx W.heap.size (.int .u8 ((o : Nat) : Int)) (.int .u8 ((w : Nat) : Int)) (.int .i64 k0) (.int .i64 k1) (.int .i64 k2) (.int .u64 ((n : Nat) : Int)) (.int .u8 ((l : Nat) : Int)) ∧ At2 wx (W.heap.size + 1) (.int .u8 0) (.int .u64 0) ∧ (∀ o, wx.frozen? ⟨W.heap.size + 1, o, none⟩ = false) ∧ Below W.heap.size W wx)
  case first =>
    refine wp_region_held_drew (S := fun w' => VecS W b (.int .u8 ((o : Nat) : Int)) (.int .u8 ((w : Nat) : Int)) (.int .u64 ((n : Nat) : Int)) (.int .u8 ((l : Nat) : Int)) k0 k1 k2 w0 n0 w1 n1 w2 n2 w') (by kernel_rfl) HS.out.drew (fun hHeld => ?_)
    refine wpAnyH_take (i := 0) (v := .map (some b)) (by simp only [List.getElem?_toArray, List.getElem?_cons_zero]; rfl) (by kernel_rfl) (by kernel_rfl) (by kernel_rfl) (by exact fun _ _ _ h => h) (Or.inl ⟨by rfl, ?_⟩) hHeld ?_
    · intro w' hSw
      go_simp
    simp only [Act.put, List.setIfInBounds_toArray, List.set_cons_zero, List.set_cons_succ]
    refine wpAnyH_take (i := 1) (v := .pointer (some ⟨W.heap.size, 2, none⟩)) (by simp only [List.getElem?_toArray, List.getElem?_cons_zero, List.getElem?_cons_succ]; rfl) (by kernel_rfl) (by kernel_rfl) (by kernel_rfl) (by exact fun _ _ _ h => h) (Or.inl ⟨by rfl, ?_⟩) hHeld ?_
    · intro w' hSw
      go_simp
    simp only [Act.put, List.setIfInBounds_toArray, List.set_cons_zero, List.set_cons_succ]
    refine wpAnyH_take (i := 2) (v := .pointer (some ⟨W.heap.size, 2, none⟩)) (by simp only [List.getElem?_toArray, List.getElem?_cons_zero, List.getElem?_cons_succ]; rfl) (by kernel_rfl) (by kernel_rfl) (by kernel_rfl) (by exact fun _ _ _ h => h) (Or.inl ⟨by rfl, ?_⟩) hHeld ?_
    · intro w' hSw
      go_simp
    simp only [Act.put, List.setIfInBounds_toArray, List.set_cons_zero, List.set_cons_succ]
    refine wpAnyH_take (i := 3) (v := .int .i64 k0) (by simp only [List.getElem?_toArray, List.getElem?_cons_zero, List.getElem?_cons_succ]; rfl) (by kernel_rfl) (by kernel_rfl) (by kernel_rfl) (by exact fun _ _ _ h => h) (Or.inl ⟨by rfl, ?_⟩) hHeld ?_
    · intro w' hSw
      obtain ⟨f0, f1, f2, f3, f4, f5, f6, f7, f8, f9⟩ := hSw.facts; have lW := hSw.box.lt; go_simp
    simp only [Act.put, List.setIfInBounds_toArray, List.set_cons_zero, List.set_cons_succ]
    refine wpAnyH_take (i := 4) (v := .agg #[.int .u8 ((w0 : Nat) : Int), .int .u64 ((n0 : Nat) : Int)]) (by simp only [List.getElem?_toArray, List.getElem?_cons_zero, List.getElem?_cons_succ]; rfl) (by kernel_rfl) (by kernel_rfl) (by kernel_rfl) (by exact fun _ _ _ h => h) (Or.inl ⟨by rfl, ?_⟩) hHeld ?_
    · intro w' hSw
      obtain ⟨f0, f1, f2, f3, f4, f5, f6, f7, f8, f9⟩ := hSw.facts; have lW := hSw.box.lt; go_simp
    simp only [Act.put, List.setIfInBounds_toArray, List.set_cons_zero, List.set_cons_succ]
    refine wpAnyH_take (i := 5) (v := .map (some b)) (by simp only [List.getElem?_toArray, List.getElem?_cons_zero, List.getElem?_cons_succ]; rfl) (by kernel_rfl) (by kernel_rfl) (by kernel_rfl) (by exact fun _ _ _ h => h) (Or.inl ⟨by rfl, ?_⟩) hHeld ?_
    · intro w' hSw
      go_simp
    simp only [Act.put, List.setIfInBounds_toArray, List.set_cons_zero, List.set_cons_succ]
    refine wpAnyH_take (i := 6) (v := .pointer (some ⟨W.heap.size, 2, none⟩)) (by simp only [List.getElem?_toArray, List.getElem?_cons_zero, List.getElem?_cons_succ]; rfl) (by kernel_rfl) (by kernel_rfl) (by kernel_rfl) (by exact fun _ _ _ h => h) (Or.inl ⟨by rfl, ?_⟩) hHeld ?_
    · intro w' hSw
      go_simp
    simp only [Act.put, List.setIfInBounds_toArray, List.set_cons_zero, List.set_cons_succ]
    refine wpAnyH_take (i := 7) (v := .pointer (some ⟨W.heap.size, 3, none⟩)) (by simp only [List.getElem?_toArray, List.getElem?_cons_zero, List.getElem?_cons_succ]; rfl) (by kernel_rfl) (by kernel_rfl) (by kernel_rfl) (by exact fun _ _ _ h => h) (Or.inl ⟨by rfl, ?_⟩) hHeld ?_
    · intro w' hSw
      go_simp
    simp only [Act.put, List.setIfInBounds_toArray, List.set_cons_zero, List.set_cons_succ]
    refine wpAnyH_take (i := 8) (v := .int .i64 k1) (by simp only [List.getElem?_toArray, List.getElem?_cons_zero, List.getElem?_cons_succ]; rfl) (by kernel_rfl) (by kernel_rfl) (by kernel_rfl) (by exact fun _ _ _ h => h) (Or.inl ⟨by rfl, ?_⟩) hHeld ?_
    · intro w' hSw
      obtain ⟨f0, f1, f2, f3, f4, f5, f6, f7, f8, f9⟩ := hSw.facts; have lW := hSw.box.lt; go_simp
    simp only [Act.put, List.setIfInBounds_toArray, List.set_cons_zero, List.set_cons_succ]
    refine wpAnyH_take (i := 9) (v := .agg #[.int .u8 ((w1 : Nat) : Int), .int .u64 ((n1 : Nat) : Int)]) (by simp only [List.getElem?_toArray, List.getElem?_cons_zero, List.getElem?_cons_succ]; rfl) (by kernel_rfl) (by kernel_rfl) (by kernel_rfl) (by exact fun _ _ _ h => h) (Or.inl ⟨by rfl, ?_⟩) hHeld ?_
    · intro w' hSw
      obtain ⟨f0, f1, f2, f3, f4, f5, f6, f7, f8, f9⟩ := hSw.facts; have lW := hSw.box.lt; go_simp
    simp only [Act.put, List.setIfInBounds_toArray, List.set_cons_zero, List.set_cons_succ]
    refine wpAnyH_take (i := 10) (v := .map (some b)) (by simp only [List.getElem?_toArray, List.getElem?_cons_zero, List.getElem?_cons_succ]; rfl) (by kernel_rfl) (by kernel_rfl) (by kernel_rfl) (by exact fun _ _ _ h => h) (Or.inl ⟨by rfl, ?_⟩) hHeld ?_
    · intro w' hSw
      go_simp
    simp only [Act.put, List.setIfInBounds_toArray, List.set_cons_zero, List.set_cons_succ]
    refine wpAnyH_take (i := 11) (v := .pointer (some ⟨W.heap.size, 2, none⟩)) (by simp only [List.getElem?_toArray, List.getElem?_cons_zero, List.getElem?_cons_succ]; rfl) (by kernel_rfl) (by kernel_rfl) (by kernel_rfl) (by exact fun _ _ _ h => h) (Or.inl ⟨by rfl, ?_⟩) hHeld ?_
    · intro w' hSw
      go_simp
    simp only [Act.put, List.setIfInBounds_toArray, List.set_cons_zero, List.set_cons_succ]
    refine wpAnyH_take (i := 12) (v := .pointer (some ⟨W.heap.size, 4, none⟩)) (by simp only [List.getElem?_toArray, List.getElem?_cons_zero, List.getElem?_cons_succ]; rfl) (by kernel_rfl) (by kernel_rfl) (by kernel_rfl) (by exact fun _ _ _ h => h) (Or.inl ⟨by rfl, ?_⟩) hHeld ?_
    · intro w' hSw
      go_simp
    simp only [Act.put, List.setIfInBounds_toArray, List.set_cons_zero, List.set_cons_succ]
    refine wpAnyH_take (i := 13) (v := .int .i64 k2) (by simp only [List.getElem?_toArray, List.getElem?_cons_zero, List.getElem?_cons_succ]; rfl) (by kernel_rfl) (by kernel_rfl) (by kernel_rfl) (by exact fun _ _ _ h => h) (Or.inl ⟨by rfl, ?_⟩) hHeld ?_
    · intro w' hSw
      obtain ⟨f0, f1, f2, f3, f4, f5, f6, f7, f8, f9⟩ := hSw.facts; have lW := hSw.box.lt; go_simp
    simp only [Act.put, List.setIfInBounds_toArray, List.set_cons_zero, List.set_cons_succ]
    refine wpAnyH_take (i := 14) (v := .agg #[.int .u8 ((w2 : Nat) : Int), .int .u64 ((n2 : Nat) : Int)]) (by simp only [List.getElem?_toArray, List.getElem?_cons_zero, List.getElem?_cons_succ]; rfl) (by kernel_rfl) (by kernel_rfl) (by kernel_rfl) (by exact fun _ _ _ h => h) (Or.inl ⟨by rfl, ?_⟩) hHeld ?_
    · intro w' hSw
      obtain ⟨f0, f1, f2, f3, f4, f5, f6, f7, f8, f9⟩ := hSw.facts; have lW := hSw.box.lt; go_simp
    simp only [Act.put, List.setIfInBounds_toArray, List.set_cons_zero, List.set_cons_succ]
    refine wpAnyH_ready (rs := [15, 16, 17]) (by kernel_rfl) (by simp) ?_
    refine AllReadyH.cons (by simp only [List.getElem?_toArray, List.getElem?_cons_zero, List.getElem?_cons_succ]; rfl) (fun K hK => ?_) ?_
    · go_simp
      refine hK.out _ _ ?_ (fun hHeld => ?_)
      · repeat (first | exact hHeld | exact HS.out | (refine VecS.alloc ?_ _) | (refine VecS.drew ?_) | (refine VecS.setCell ?_ _ _ (by show W.heap.size < _; simp; try omega)))
      clear hK K
      try simp only [Act.put, List.setIfInBounds_toArray, List.set_cons_zero, List.set_cons_succ]
      refine wpAnyH_ready (rs := [16, 17]) (by kernel_rfl) (by simp) ?_
      refine AllReadyH.cons (by simp only [List.getElem?_toArray, List.getElem?_cons_zero, List.getElem?_cons_succ]; rfl) (fun K hK => ?_) ?_
      · go_simp
        refine hK.out _ _ ?_ (fun hHeld => ?_)
        · repeat (first | exact hHeld | exact HS.out | (refine VecS.alloc ?_ _) | (refine VecS.drew ?_) | (refine VecS.setCell ?_ _ _ (by show W.heap.size < _; simp; try omega)))
        clear hK K
        try simp only [Act.put, List.setIfInBounds_toArray, List.set_cons_zero, List.set_cons_succ]
        refine wpAnyH_ready (rs := [17]) (by kernel_rfl) (by simp) ?_
        refine AllReadyH.cons (by simp only [List.getElem?_toArray, List.getElem?_cons_zero, List.getElem?_cons_succ]; rfl) (fun K hK => ?_) ?_
        · go_simp
          refine hK.out _ _ ?_ (fun hHeld => ?_)
          · repeat (first | exact hHeld | exact HS.out | (refine VecS.alloc ?_ _) | (refine VecS.drew ?_) | (refine VecS.setCell ?_ _ _ (by show W.heap.size < _; simp; try omega)))
          clear hK K
          try simp only [Act.put, List.setIfInBounds_toArray, List.set_cons_zero, List.set_cons_succ]
          refine wpAnyH_ready (rs := [18]) (by kernel_rfl) (by simp) ?_
          refine AllReadyH.cons (by simp only [List.getElem?_toArray, List.getElem?_cons_zero, List.getElem?_cons_succ]; rfl) (fun K hK => ?_) ?_
          · go_simp
            refine hK.out _ _ ?_ (fun hHeld => ?_)
            · repeat (first | exact hHeld | exact HS.out | (refine VecS.alloc ?_ _) | (refine VecS.drew ?_) | (refine VecS.setCell ?_ _ _ (by show W.heap.size < _; simp; try omega)))
            clear hK K
            try simp only [Act.put, List.setIfInBounds_toArray, List.set_cons_zero, List.set_cons_succ]
            refine wpAnyH_ready (rs := [19]) (by kernel_rfl) (by simp) ?_
            refine AllReadyH.cons (by simp only [List.getElem?_toArray, List.getElem?_cons_zero, List.getElem?_cons_succ]; rfl) (fun K hK => ?_) ?_
            · go_simp
              refine hK.out _ _ ?_ (fun hHeld => ?_)
              · repeat (first | exact hHeld | exact HS.out | (refine VecS.alloc ?_ _) | (refine VecS.drew ?_) | (refine VecS.setCell ?_ _ _ (by show W.heap.size < _; simp; try omega)))
              clear hK K
              try simp only [Act.put, List.setIfInBounds_toArray, List.set_cons_zero, List.set_cons_succ]
              refine wpAnyH_ready (rs := [20]) (by kernel_rfl) (by simp) ?_
              refine AllReadyH.cons (by simp only [List.getElem?_toArray, List.getElem?_cons_zero, List.getElem?_cons_succ]; rfl) (fun K hK => ?_) ?_
              · go_simp
                refine hK.out _ _ ?_ (fun hHeld => ?_)
                · repeat (first | exact hHeld | exact HS.out | (refine VecS.alloc ?_ _) | (refine VecS.drew ?_) | (refine VecS.setCell ?_ _ _ (by show W.heap.size < _; simp; try omega)))
                clear hK K
                try simp only [Act.put, List.setIfInBounds_toArray, List.set_cons_zero, List.set_cons_succ]
                refine wpAnyH_done (by kernel_rfl) ?_ _
                go_wp2_with fail
                go_meet
                refine ⟨_, _, _, rfl, rfl, rfl, by omega, by omega, by omega, ⟨?_, ?_, ?_⟩, ⟨?_, ?_, ?_⟩, ⟨?_, ?_, ?_⟩, hHeld.box, ⟨?_, ?_, ?_⟩, fun o => ?_, hHeld.bel⟩
                all_goals first | (simp [go_sem]; done) | (simp [go_sem]; omega) | skip
              exact AllReadyH.nil
            exact AllReadyH.nil
          exact AllReadyH.nil
        exact AllReadyH.nil
      refine AllReadyH.cons (by simp only [List.getElem?_toArray, List.getElem?_cons_zero, List.getElem?_cons_succ]; rfl) (fun K hK => ?_) ?_
      · go_simp
        refine hK.out _ _ ?_ (fun hHeld => ?_)
        · repeat (first | exact hHeld | exact HS.out | (refine VecS.alloc ?_ _) | (refine VecS.drew ?_) | (refine VecS.setCell ?_ _ _ (by show W.heap.size < _; simp; try omega)))
        clear hK K
        try simp only [Act.put, List.setIfInBounds_toArray, List.set_cons_zero, List.set_cons_succ]
        refine wpAnyH_ready (rs := [16]) (by kernel_rfl) (by simp) ?_
        refine AllReadyH.cons (by simp only [List.getElem?_toArray, List.getElem?_cons_zero, List.getElem?_cons_succ]; rfl) (fun K hK => ?_) ?_
        · go_simp
          refine hK.out _ _ ?_ (fun hHeld => ?_)
          · repeat (first | exact hHeld | exact HS.out | (refine VecS.alloc ?_ _) | (refine VecS.drew ?_) | (refine VecS.setCell ?_ _ _ (by show W.heap.size < _; simp; try omega)))
          clear hK K
          try simp only [Act.put, List.setIfInBounds_toArray, List.set_cons_zero, List.set_cons_succ]
          refine wpAnyH_ready (rs := [18]) (by kernel_rfl) (by simp) ?_
          refine AllReadyH.cons (by simp only [List.getElem?_toArray, List.getElem?_cons_zero, List.getElem?_cons_succ]; rfl) (fun K hK => ?_) ?_
          · go_simp
            refine hK.out _ _ ?_ (fun hHeld => ?_)
            · repeat (first | exact hHeld | exact HS.out | (refine VecS.alloc ?_ _) | (refine VecS.drew ?_) | (refine VecS.setCell ?_ _ _ (by show W.heap.size < _; simp; try omega)))
            clear hK K
            try simp only [Act.put, List.setIfInBounds_toArray, List.set_cons_zero, List.set_cons_succ]
            refine wpAnyH_ready (rs := [19]) (by kernel_rfl) (by simp) ?_
            refine AllReadyH.cons (by simp only [List.getElem?_toArray, List.getElem?_cons_zero, List.getElem?_cons_succ]; rfl) (fun K hK => ?_) ?_
            · go_simp
              refine hK.out _ _ ?_ (fun hHeld => ?_)
              · repeat (first | exact hHeld | exact HS.out | (refine VecS.alloc ?_ _) | (refine VecS.drew ?_) | (refine VecS.setCell ?_ _ _ (by show W.heap.size < _; simp; try omega)))
              clear hK K
              try simp only [Act.put, List.setIfInBounds_toArray, List.set_cons_zero, List.set_cons_succ]
              refine wpAnyH_ready (rs := [20]) (by kernel_rfl) (by simp) ?_
              refine AllReadyH.cons (by simp only [List.getElem?_toArray, List.getElem?_cons_zero, List.getElem?_cons_succ]; rfl) (fun K hK => ?_) ?_
              · go_simp
                refine hK.out _ _ ?_ (fun hHeld => ?_)
                · repeat (first | exact hHeld | exact HS.out | (refine VecS.alloc ?_ _) | (refine VecS.drew ?_) | (refine VecS.setCell ?_ _ _ (by show W.heap.size < _; simp; try omega)))
                clear hK K
                try simp only [Act.put, List.setIfInBounds_toArray, List.set_cons_zero, List.set_cons_succ]
                refine wpAnyH_done (by kernel_rfl) ?_ _
                go_wp2_with fail
                go_meet
                refine ⟨_, _, _, rfl, rfl, rfl, by omega, by omega, by omega, ⟨?_, ?_, ?_⟩, ⟨?_, ?_, ?_⟩, ⟨?_, ?_, ?_⟩, hHeld.box, ⟨?_, ?_, ?_⟩, fun o => ?_, hHeld.bel⟩
                all_goals first | (simp [go_sem]; done) | (simp [go_sem]; omega) | skip
              exact AllReadyH.nil
            exact AllReadyH.nil
          exact AllReadyH.nil
        exact AllReadyH.nil
      exact AllReadyH.nil
    refine AllReadyH.cons (by simp only [List.getElem?_toArray, List.getElem?_cons_zero, List.getElem?_cons_succ]; rfl) (fun K hK => ?_) ?_
    · go_simp
      refine hK.out _ _ ?_ (fun hHeld => ?_)
      · repeat (first | exact hHeld | exact HS.out | (refine VecS.alloc ?_ _) | (refine VecS.drew ?_) | (refine VecS.setCell ?_ _ _ (by show W.heap.size < _; simp; try omega)))
      clear hK K
      try simp only [Act.put, List.setIfInBounds_toArray, List.set_cons_zero, List.set_cons_succ]
      refine wpAnyH_ready (rs := [15, 17]) (by kernel_rfl) (by simp) ?_
      refine AllReadyH.cons (by simp only [List.getElem?_toArray, List.getElem?_cons_zero, List.getElem?_cons_succ]; rfl) (fun K hK => ?_) ?_
      · go_simp
        refine hK.out _ _ ?_ (fun hHeld => ?_)
        · repeat (first | exact hHeld | exact HS.out | (refine VecS.alloc ?_ _) | (refine VecS.drew ?_) | (refine VecS.setCell ?_ _ _ (by show W.heap.size < _; simp; try omega)))
        clear hK K
        try simp only [Act.put, List.setIfInBounds_toArray, List.set_cons_zero, List.set_cons_succ]
        refine wpAnyH_ready (rs := [17]) (by kernel_rfl) (by simp) ?_
        refine AllReadyH.cons (by simp only [List.getElem?_toArray, List.getElem?_cons_zero, List.getElem?_cons_succ]; rfl) (fun K hK => ?_) ?_
        · go_simp
          refine hK.out _ _ ?_ (fun hHeld => ?_)
          · repeat (first | exact hHeld | exact HS.out | (refine VecS.alloc ?_ _) | (refine VecS.drew ?_) | (refine VecS.setCell ?_ _ _ (by show W.heap.size < _; simp; try omega)))
          clear hK K
          try simp only [Act.put, List.setIfInBounds_toArray, List.set_cons_zero, List.set_cons_succ]
          refine wpAnyH_ready (rs := [18]) (by kernel_rfl) (by simp) ?_
          refine AllReadyH.cons (by simp only [List.getElem?_toArray, List.getElem?_cons_zero, List.getElem?_cons_succ]; rfl) (fun K hK => ?_) ?_
          · go_simp
            refine hK.out _ _ ?_ (fun hHeld => ?_)
            · repeat (first | exact hHeld | exact HS.out | (refine VecS.alloc ?_ _) | (refine VecS.drew ?_) | (refine VecS.setCell ?_ _ _ (by show W.heap.size < _; simp; try omega)))
            clear hK K
            try simp only [Act.put, List.setIfInBounds_toArray, List.set_cons_zero, List.set_cons_succ]
            refine wpAnyH_ready (rs := [19]) (by kernel_rfl) (by simp) ?_
            refine AllReadyH.cons (by simp only [List.getElem?_toArray, List.getElem?_cons_zero, List.getElem?_cons_succ]; rfl) (fun K hK => ?_) ?_
            · go_simp
              refine hK.out _ _ ?_ (fun hHeld => ?_)
              · repeat (first | exact hHeld | exact HS.out | (refine VecS.alloc ?_ _) | (refine VecS.drew ?_) | (refine VecS.setCell ?_ _ _ (by show W.heap.size < _; simp; try omega)))
              clear hK K
              try simp only [Act.put, List.setIfInBounds_toArray, List.set_cons_zero, List.set_cons_succ]
              refine wpAnyH_ready (rs := [20]) (by kernel_rfl) (by simp) ?_
              refine AllReadyH.cons (by simp only [List.getElem?_toArray, List.getElem?_cons_zero, List.getElem?_cons_succ]; rfl) (fun K hK => ?_) ?_
              · go_simp
                refine hK.out _ _ ?_ (fun hHeld => ?_)
                · repeat (first | exact hHeld | exact HS.out | (refine VecS.alloc ?_ _) | (refine VecS.drew ?_) | (refine VecS.setCell ?_ _ _ (by show W.heap.size < _; simp; try omega)))
                clear hK K
                try simp only [Act.put, List.setIfInBounds_toArray, List.set_cons_zero, List.set_cons_succ]
                refine wpAnyH_done (by kernel_rfl) ?_ _
                go_wp2_with fail
                go_meet
                refine ⟨_, _, _, rfl, rfl, rfl, by omega, by omega, by omega, ⟨?_, ?_, ?_⟩, ⟨?_, ?_, ?_⟩, ⟨?_, ?_, ?_⟩, hHeld.box, ⟨?_, ?_, ?_⟩, fun o => ?_, hHeld.bel⟩
                all_goals first | (simp [go_sem]; done) | (simp [go_sem]; omega) | skip
              exact AllReadyH.nil
            exact AllReadyH.nil
          exact AllReadyH.nil
        exact AllReadyH.nil
      refine AllReadyH.cons (by simp only [List.getElem?_toArray, List.getElem?_cons_zero, List.getElem?_cons_succ]; rfl) (fun K hK => ?_) ?_
      · go_simp
        refine hK.out _ _ ?_ (fun hHeld => ?_)
        · repeat (first | exact hHeld | exact HS.out | (refine VecS.alloc ?_ _) | (refine VecS.drew ?_) | (refine VecS.setCell ?_ _ _ (by show W.heap.size < _; simp; try omega)))
        clear hK K
        try simp only [Act.put, List.setIfInBounds_toArray, List.set_cons_zero, List.set_cons_succ]
        refine wpAnyH_ready (rs := [15]) (by kernel_rfl) (by simp) ?_
        refine AllReadyH.cons (by simp only [List.getElem?_toArray, List.getElem?_cons_zero, List.getElem?_cons_succ]; rfl) (fun K hK => ?_) ?_
        · go_simp
          refine hK.out _ _ ?_ (fun hHeld => ?_)
          · repeat (first | exact hHeld | exact HS.out | (refine VecS.alloc ?_ _) | (refine VecS.drew ?_) | (refine VecS.setCell ?_ _ _ (by show W.heap.size < _; simp; try omega)))
          clear hK K
          try simp only [Act.put, List.setIfInBounds_toArray, List.set_cons_zero, List.set_cons_succ]
          refine wpAnyH_ready (rs := [18]) (by kernel_rfl) (by simp) ?_
          refine AllReadyH.cons (by simp only [List.getElem?_toArray, List.getElem?_cons_zero, List.getElem?_cons_succ]; rfl) (fun K hK => ?_) ?_
          · go_simp
            refine hK.out _ _ ?_ (fun hHeld => ?_)
            · repeat (first | exact hHeld | exact HS.out | (refine VecS.alloc ?_ _) | (refine VecS.drew ?_) | (refine VecS.setCell ?_ _ _ (by show W.heap.size < _; simp; try omega)))
            clear hK K
            try simp only [Act.put, List.setIfInBounds_toArray, List.set_cons_zero, List.set_cons_succ]
            refine wpAnyH_ready (rs := [19]) (by kernel_rfl) (by simp) ?_
            refine AllReadyH.cons (by simp only [List.getElem?_toArray, List.getElem?_cons_zero, List.getElem?_cons_succ]; rfl) (fun K hK => ?_) ?_
            · go_simp
              refine hK.out _ _ ?_ (fun hHeld => ?_)
              · repeat (first | exact hHeld | exact HS.out | (refine VecS.alloc ?_ _) | (refine VecS.drew ?_) | (refine VecS.setCell ?_ _ _ (by show W.heap.size < _; simp; try omega)))
              clear hK K
              try simp only [Act.put, List.setIfInBounds_toArray, List.set_cons_zero, List.set_cons_succ]
              refine wpAnyH_ready (rs := [20]) (by kernel_rfl) (by simp) ?_
              refine AllReadyH.cons (by simp only [List.getElem?_toArray, List.getElem?_cons_zero, List.getElem?_cons_succ]; rfl) (fun K hK => ?_) ?_
              · go_simp
                refine hK.out _ _ ?_ (fun hHeld => ?_)
                · repeat (first | exact hHeld | exact HS.out | (refine VecS.alloc ?_ _) | (refine VecS.drew ?_) | (refine VecS.setCell ?_ _ _ (by show W.heap.size < _; simp; try omega)))
                clear hK K
                try simp only [Act.put, List.setIfInBounds_toArray, List.set_cons_zero, List.set_cons_succ]
                refine wpAnyH_done (by kernel_rfl) ?_ _
                go_wp2_with fail
                go_meet
                refine ⟨_, _, _, rfl, rfl, rfl, by omega, by omega, by omega, ⟨?_, ?_, ?_⟩, ⟨?_, ?_, ?_⟩, ⟨?_, ?_, ?_⟩, hHeld.box, ⟨?_, ?_, ?_⟩, fun o => ?_, hHeld.bel⟩
                all_goals first | (simp [go_sem]; done) | (simp [go_sem]; omega) | skip
              exact AllReadyH.nil
            exact AllReadyH.nil
          exact AllReadyH.nil
        exact AllReadyH.nil
      exact AllReadyH.nil
    refine AllReadyH.cons (by simp only [List.getElem?_toArray, List.getElem?_cons_zero, List.getElem?_cons_succ]; rfl) (fun K hK => ?_) ?_
    · go_simp
      refine hK.out _ _ ?_ (fun hHeld => ?_)
      · repeat (first | exact hHeld | exact HS.out | (refine VecS.alloc ?_ _) | (refine VecS.drew ?_) | (refine VecS.setCell ?_ _ _ (by show W.heap.size < _; simp; try omega)))
      clear hK K
      try simp only [Act.put, List.setIfInBounds_toArray, List.set_cons_zero, List.set_cons_succ]
      refine wpAnyH_ready (rs := [15, 16]) (by kernel_rfl) (by simp) ?_
      refine AllReadyH.cons (by simp only [List.getElem?_toArray, List.getElem?_cons_zero, List.getElem?_cons_succ]; rfl) (fun K hK => ?_) ?_
      · go_simp
        refine hK.out _ _ ?_ (fun hHeld => ?_)
        · repeat (first | exact hHeld | exact HS.out | (refine VecS.alloc ?_ _) | (refine VecS.drew ?_) | (refine VecS.setCell ?_ _ _ (by show W.heap.size < _; simp; try omega)))
        clear hK K
        try simp only [Act.put, List.setIfInBounds_toArray, List.set_cons_zero, List.set_cons_succ]
        refine wpAnyH_ready (rs := [16]) (by kernel_rfl) (by simp) ?_
        refine AllReadyH.cons (by simp only [List.getElem?_toArray, List.getElem?_cons_zero, List.getElem?_cons_succ]; rfl) (fun K hK => ?_) ?_
        · go_simp
          refine hK.out _ _ ?_ (fun hHeld => ?_)
          · repeat (first | exact hHeld | exact HS.out | (refine VecS.alloc ?_ _) | (refine VecS.drew ?_) | (refine VecS.setCell ?_ _ _ (by show W.heap.size < _; simp; try omega)))
          clear hK K
          try simp only [Act.put, List.setIfInBounds_toArray, List.set_cons_zero, List.set_cons_succ]
          refine wpAnyH_ready (rs := [18]) (by kernel_rfl) (by simp) ?_
          refine AllReadyH.cons (by simp only [List.getElem?_toArray, List.getElem?_cons_zero, List.getElem?_cons_succ]; rfl) (fun K hK => ?_) ?_
          · go_simp
            refine hK.out _ _ ?_ (fun hHeld => ?_)
            · repeat (first | exact hHeld | exact HS.out | (refine VecS.alloc ?_ _) | (refine VecS.drew ?_) | (refine VecS.setCell ?_ _ _ (by show W.heap.size < _; simp; try omega)))
            clear hK K
            try simp only [Act.put, List.setIfInBounds_toArray, List.set_cons_zero, List.set_cons_succ]
            refine wpAnyH_ready (rs := [19]) (by kernel_rfl) (by simp) ?_
            refine AllReadyH.cons (by simp only [List.getElem?_toArray, List.getElem?_cons_zero, List.getElem?_cons_succ]; rfl) (fun K hK => ?_) ?_
            · go_simp
              refine hK.out _ _ ?_ (fun hHeld => ?_)
              · repeat (first | exact hHeld | exact HS.out | (refine VecS.alloc ?_ _) | (refine VecS.drew ?_) | (refine VecS.setCell ?_ _ _ (by show W.heap.size < _; simp; try omega)))
              clear hK K
              try simp only [Act.put, List.setIfInBounds_toArray, List.set_cons_zero, List.set_cons_succ]
              refine wpAnyH_ready (rs := [20]) (by kernel_rfl) (by simp) ?_
              refine AllReadyH.cons (by simp only [List.getElem?_toArray, List.getElem?_cons_zero, List.getElem?_cons_succ]; rfl) (fun K hK => ?_) ?_
              · go_simp
                refine hK.out _ _ ?_ (fun hHeld => ?_)
                · repeat (first | exact hHeld | exact HS.out | (refine VecS.alloc ?_ _) | (refine VecS.drew ?_) | (refine VecS.setCell ?_ _ _ (by show W.heap.size < _; simp; try omega)))
                clear hK K
                try simp only [Act.put, List.setIfInBounds_toArray, List.set_cons_zero, List.set_cons_succ]
                refine wpAnyH_done (by kernel_rfl) ?_ _
                go_wp2_with fail
                go_meet
                refine ⟨_, _, _, rfl, rfl, rfl, by omega, by omega, by omega, ⟨?_, ?_, ?_⟩, ⟨?_, ?_, ?_⟩, ⟨?_, ?_, ?_⟩, hHeld.box, ⟨?_, ?_, ?_⟩, fun o => ?_, hHeld.bel⟩
                all_goals first | (simp [go_sem]; done) | (simp [go_sem]; omega) | skip
              exact AllReadyH.nil
            exact AllReadyH.nil
          exact AllReadyH.nil
        exact AllReadyH.nil
      refine AllReadyH.cons (by simp only [List.getElem?_toArray, List.getElem?_cons_zero, List.getElem?_cons_succ]; rfl) (fun K hK => ?_) ?_
      · go_simp
        refine hK.out _ _ ?_ (fun hHeld => ?_)
        · repeat (first | exact hHeld | exact HS.out | (refine VecS.alloc ?_ _) | (refine VecS.drew ?_) | (refine VecS.setCell ?_ _ _ (by show W.heap.size < _; simp; try omega)))
        clear hK K
        try simp only [Act.put, List.setIfInBounds_toArray, List.set_cons_zero, List.set_cons_succ]
        refine wpAnyH_ready (rs := [15]) (by kernel_rfl) (by simp) ?_
        refine AllReadyH.cons (by simp only [List.getElem?_toArray, List.getElem?_cons_zero, List.getElem?_cons_succ]; rfl) (fun K hK => ?_) ?_
        · go_simp
          refine hK.out _ _ ?_ (fun hHeld => ?_)
          · repeat (first | exact hHeld | exact HS.out | (refine VecS.alloc ?_ _) | (refine VecS.drew ?_) | (refine VecS.setCell ?_ _ _ (by show W.heap.size < _; simp; try omega)))
          clear hK K
          try simp only [Act.put, List.setIfInBounds_toArray, List.set_cons_zero, List.set_cons_succ]
          refine wpAnyH_ready (rs := [18]) (by kernel_rfl) (by simp) ?_
          refine AllReadyH.cons (by simp only [List.getElem?_toArray, List.getElem?_cons_zero, List.getElem?_cons_succ]; rfl) (fun K hK => ?_) ?_
          · go_simp
            refine hK.out _ _ ?_ (fun hHeld => ?_)
            · repeat (first | exact hHeld | exact HS.out | (refine VecS.alloc ?_ _) | (refine VecS.drew ?_) | (refine VecS.setCell ?_ _ _ (by show W.heap.size < _; simp; try omega)))
            clear hK K
            try simp only [Act.put, List.setIfInBounds_toArray, List.set_cons_zero, List.set_cons_succ]
            refine wpAnyH_ready (rs := [19]) (by kernel_rfl) (by simp) ?_
            refine AllReadyH.cons (by simp only [List.getElem?_toArray, List.getElem?_cons_zero, List.getElem?_cons_succ]; rfl) (fun K hK => ?_) ?_
            · go_simp
              refine hK.out _ _ ?_ (fun hHeld => ?_)
              · repeat (first | exact hHeld | exact HS.out | (refine VecS.alloc ?_ _) | (refine VecS.drew ?_) | (refine VecS.setCell ?_ _ _ (by show W.heap.size < _; simp; try omega)))
              clear hK K
              try simp only [Act.put, List.setIfInBounds_toArray, List.set_cons_zero, List.set_cons_succ]
              refine wpAnyH_ready (rs := [20]) (by kernel_rfl) (by simp) ?_
              refine AllReadyH.cons (by simp only [List.getElem?_toArray, List.getElem?_cons_zero, List.getElem?_cons_succ]; rfl) (fun K hK => ?_) ?_
              · go_simp
                refine hK.out _ _ ?_ (fun hHeld => ?_)
                · repeat (first | exact hHeld | exact HS.out | (refine VecS.alloc ?_ _) | (refine VecS.drew ?_) | (refine VecS.setCell ?_ _ _ (by show W.heap.size < _; simp; try omega)))
                clear hK K
                try simp only [Act.put, List.setIfInBounds_toArray, List.set_cons_zero, List.set_cons_succ]
                refine wpAnyH_done (by kernel_rfl) ?_ _
                go_wp2_with fail
                go_meet
                refine ⟨_, _, _, rfl, rfl, rfl, by omega, by omega, by omega, ⟨?_, ?_, ?_⟩, ⟨?_, ?_, ?_⟩, ⟨?_, ?_, ?_⟩, hHeld.box, ⟨?_, ?_, ?_⟩, fun o => ?_, hHeld.bel⟩
                all_goals first | (simp [go_sem]; done) | (simp [go_sem]; omega) | skip
              exact AllReadyH.nil
            exact AllReadyH.nil
          exact AllReadyH.nil
        exact AllReadyH.nil
      exact AllReadyH.nil
    exact AllReadyH.nil

  case rest =>
    obtain ⟨g, h, i, rfl, rfl, rfl, lg, lh, li, ⟨pg, pg0, pg1⟩, ⟨ph, ph0, ph1⟩, ⟨pi, pi0, pi1⟩, bx, ⟨pr, pr0, pr1⟩, fr, hbel⟩ := hcut
    have HR := Lib.hid (⟨bx, pr0, pr1, fr, pr, hbel⟩ : VecR W _ _ _ _ _ _ _ wc)
    have HRD := Lib.hid HR.out.drew
    have f0 := fr 0
    have f1 := fr 1
    unfold At7 at bx
    have HC := Lib.hid (fun W => binary_ok o w0 w1 n0 n1 hm hm2 hr W)
    have d1 : (((o : Nat) : Int) == 1) = false := by simp; omega
    have d2 : (((o : Nat) : Int) == 2) = false := by simp; omega
    have d3 : (((o : Nat) : Int) == 3) = false := by simp; omega
    have d4 : (((o : Nat) : Int) == 4) = false := by simp; omega
    have d22 : (((o : Nat) : Int) == 22) = false := by simp; omega
    have d23 : (((o : Nat) : Int) == 23) = false := by simp; omega
    have d24 : (((o : Nat) : Int) == 24) = false := by simp; omega
    have d25 : (((o : Nat) : Int) == 25) = false := by simp; omega
    clear hm hm2 hr ho
    go_wp2_with (go_at_call 45; refine (HC.out _).mono ?_; rintro e w5 ⟨rfl, hb5⟩; have H5 := Lib.hid (HR.out.call hb5); have g0 := H5.out.r0; have g1 := H5.out.r1; have g2 := H5.out.fr 0; have g3 := H5.out.fr 1; have g4 := H5.out.l)
    exact bodyPost_ret (v := .tuple #[.agg #[.int .u8 ((widthB o w0 w1 : Nat) : Int), .int .u64 ((low (widthB o w0 w1) (numB o w0 w1 n0 n1) : Nat) : Int)], .int .i64 0]) (by simp [results, Try.results22, go_sem, g0, g1]) rfl ⟨rfl, (H5.out.b.setCell (Nat.le_succ _) _).setCell (Nat.le_succ _) _⟩

end Tm
end Go.Proofs.Ytjhghfndhpaapaa
