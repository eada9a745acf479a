/-
The document's own vector of each node, and its Eval, as facts on one call.
The document's own Eval, as a fact on one call.
-/
import Derived.Test.YtigjbngedbbdbaaEvOne
import Derived.Test.YtigjbngedbbdbaaPt14
import Derived.Deep.LoopGhost
namespace Go.Proofs.Ytigjbngedbbdbaa
open Go.RowKit Go.Maps Bv
namespace Tm
set_option maxHeartbeats 1000000
set_option maxRecDepth 100000

/-- An assignment that was handed in: a list of numbers in memory. -/
structure AsgAt (W : World) (al : Option Addr) (a : List Nat) : Prop where
  at' : a = [] ∨ ∃ ab ao, al = some ⟨ab, ao, none⟩ ∧ ab < W.heap.size ∧ ∀ (j v : Nat), a[j]? = some v → W.cell? ⟨ab, ao + j, none⟩ = some (.int .u64 ((v : Nat) : Int))
  ok : ∀ v ∈ a, v < 18446744073709551616
  len : a.length < 9223372036854775808
theorem AsgAt.keep {W w : World} {al : Option Addr} {a : List Nat} (h : AsgAt W al a) (hb : Below W.heap.size W w) : AsgAt w al a := by
  refine ⟨h.at'.imp id ?_, h.ok, h.len⟩
  rintro ⟨ab, ao, h1, h2, h3⟩
  exact ⟨ab, ao, h1, Nat.lt_of_lt_of_le h2 hb.size, fun j v hj => (hb.cell (p := ⟨ab, ao + j, none⟩) h2).trans (h3 j v hj)⟩

theorem rone_any {W : World} {L : List Nd} {a : List Nat} {i : Nat} {x : Nd} {b m mc ac : Nat} {al : Option Addr} (g : Gd L) (hM : MayL L) (hx : L[i]? = some x) (hm : i < m) (HA : AsgAt W al a)
    (hv : ∀ k, k < i → VecAt W b k (widAt L ((k : Nat) : Int)) (evN L a k)) :
    Calls Try.prog 22 #[x.val, .slice (some ⟨b, 0, none⟩) m mc, .slice al a.length ac] W fun e W' => e = .returned (.agg #[.int .u8 ((x.w : Nat) : Int), .int .u64 ((evN L a i : Nat) : Int)]) ∧ Below W.heap.size W W' := by
  have hok := g.ok x (List.mem_of_getElem? hx)
  have hw := g.w x (List.mem_of_getElem? hx)
  rw [evN_is hx]
  have kid : ∀ j, j < kc x.o → ∃ k : Nat, x.kid j = ((k : Nat) : Int) ∧ k < i ∧ wid L x j = widAt L (x.kid j) ∧ mayB (widAt L (x.kid j)) (evN L a k) = true ∧ vAt (valsN L a i) (x.kid j) = evN L a k := by
    intro j hj
    have hkj := mayL_kids hM hx j hj
    have hl := (List.getElem?_eq_some_iff.1 hx).1
    refine ⟨(x.kid j).toNat, by omega, by omega, by unfold wid; rw [if_pos hj], ?_, vAt_ev hkj.1 hkj.2⟩
    obtain ⟨y, hy⟩ : ∃ y, L[(x.kid j).toNat]? = some y := ⟨_, List.getElem?_eq_getElem (by omega)⟩
    have := ev_may g hM a _ y hy
    unfold widAt
    rw [hy]
    exact this
  by_cases h1 : x.o = 1
  · unfold oneN
    rw [if_pos h1]
    obtain ⟨o, w, k0, k1, k2, n, l⟩ := x
    simp only at h1
    subst h1
    exact one_const w n l k0 k1 k2 _ _ W
  by_cases h2 : x.o = 2
  · unfold oneN asg
    rw [if_neg h1, if_pos h2]
    have hn := g.var x (List.mem_of_getElem? hx) h2
    obtain ⟨o, w, k0, k1, k2, n, l⟩ := x
    simp only at h2 hw
    subst h2
    by_cases hna : n < a.length
    · show Calls _ _ _ _ fun e W' => e = .returned (.agg #[_, .int .u64 (((if n < a.length then low w (a.getD n 0) else 0 : Nat) : Nat) : Int)]) ∧ _
      rw [if_pos hna]
      obtain ⟨v, hv'⟩ : ∃ v, a[n]? = some v := ⟨_, List.getElem?_eq_getElem hna⟩
      rcases HA.at' with h | ⟨ab, ao, rfl, hab, hc⟩
      · subst h; simp at hna
      · have e : a.getD n 0 = v := by rw [List.getD_eq_getElem?_getD, hv']; rfl
        rw [e]
        exact one_var_in w n l a.length ac ab ao v k0 k1 k2 _ hw.2 hna HA.len (HA.ok v (List.mem_of_getElem? hv')) W hab (hc n v hv')
    · show Calls _ _ _ _ fun e W' => e = .returned (.agg #[_, .int .u64 (((if n < a.length then low w (a.getD n 0) else 0 : Nat) : Nat) : Int)]) ∧ _
      rw [if_neg hna]
      exact one_var_out w n l a.length ac k0 k1 k2 _ al hw.2 (by omega) HA.len W
  have hvec := mayL_vec hM hx h1 h2
  unfold oneN
  rw [if_neg h1, if_neg h2]
  by_cases h3 : x.o = 3 ∨ x.o = 4
  · rw [if_pos h3]
    have hk : kc x.o = 1 := by unfold kc; rw [if_pos (by omega)]
    obtain ⟨k, e0, hki, w0, m0, v0⟩ := kid 0 (by omega)
    unfold vecW at hvec
    rw [if_pos h3] at hvec
    have hww : wid L x 0 = x.w := by
      by_cases hc : 1 ≤ wid L x 0 ∧ wid L x 0 ≤ 64
      · rw [if_pos hc] at hvec; exact hvec.2
      · rw [if_neg hc] at hvec; exact absurd rfl hvec.1
    have hV := hv k hki
    obtain ⟨o, w, k0, k1, k2, n, l⟩ := x
    have e0' : k0 = ((k : Nat) : Int) := e0
    subst e0'
    have hwa : widAt L ((k : Nat) : Int) = w := w0.symm.trans hww
    have v0' : vAt (valsN L a i) ((k : Nat) : Int) = evN L a k := v0
    have m0' : mayB (widAt L ((k : Nat) : Int)) (evN L a k) = true := m0
    show Calls _ _ _ _ fun e W' => e = .returned (.agg #[.int .u8 ((w : Nat) : Int), .int .u64 ((low w (numU o (vAt (valsN L a i) ((k : Nat) : Int))) : Nat) : Int)]) ∧ _
    rw [v0']
    rw [hwa] at hV m0'
    exact one_unary w n l b m mc k1 k2 _ o h3 k w (evN L a k) (by omega) m0' W (Lib.hid hV)
  rw [if_neg h3]
  by_cases h22 : x.o = 22
  · rw [if_pos h22]
    have hk : kc x.o = 1 := by rw [h22]; decide
    obtain ⟨k, e0, hki, w0, m0, v0⟩ := kid 0 (by omega)
    unfold vecW at hvec
    rw [if_neg h3, if_pos h22] at hvec
    have hc : 1 ≤ wid L x 0 ∧ wid L x 0 ≤ 64 ∧ 1 ≤ x.w ∧ x.l + x.w ≤ wid L x 0 := by
      by_cases hc : 1 ≤ wid L x 0 ∧ wid L x 0 ≤ 64 ∧ 1 ≤ x.w ∧ x.l + x.w ≤ wid L x 0
      · exact hc
      · rw [if_neg hc] at hvec; exact absurd rfl hvec.1
    rw [w0] at hc
    have hV := hv k hki
    have hl255 := hok.l
    have hw255 := hok.w
    obtain ⟨o, w, k0, k1, k2, n, l⟩ := x
    have e0' : k0 = ((k : Nat) : Int) := e0
    subst e0'
    have v0' : vAt (valsN L a i) ((k : Nat) : Int) = evN L a k := v0
    simp only at h22
    subst h22
    show Calls _ _ _ _ fun e W' => e = .returned (.agg #[.int .u8 ((w : Nat) : Int), .int .u64 ((low w (vAt (valsN L a i) ((k : Nat) : Int) / 2 ^ l) : Nat) : Int)]) ∧ _
    rw [v0']
    exact one_extract w n l b m mc k1 k2 _ k (widAt L ((k : Nat) : Int)) (evN L a k) (by omega) m0 hc.2.2.1 hc.2.2.2 hl255 hw255 W (Lib.hid hV)
  rw [if_neg h22]
  by_cases h23 : x.o = 23 ∨ x.o = 24
  · rw [if_pos h23]
    have hk : kc x.o = 1 := by unfold kc; rw [if_pos (by omega)]
    obtain ⟨k, e0, hki, w0, m0, v0⟩ := kid 0 (by omega)
    unfold vecW at hvec
    rw [if_neg h3, if_neg h22, if_pos h23] at hvec
    have hc : 1 ≤ wid L x 0 ∧ wid L x 0 ≤ x.w ∧ x.w ≤ 64 := by
      by_cases hc : 1 ≤ wid L x 0 ∧ wid L x 0 ≤ x.w ∧ x.w ≤ 64
      · exact hc
      · rw [if_neg hc] at hvec; exact absurd rfl hvec.1
    rw [w0] at hc
    have hV := hv k hki
    have hw255 := hok.w
    obtain ⟨o, w, k0, k1, k2, n, l⟩ := x
    have e0' : k0 = ((k : Nat) : Int) := e0
    subst e0'
    have v0' : vAt (valsN L a i) ((k : Nat) : Int) = evN L a k := v0
    show Calls _ _ _ _ fun e W' => e = .returned (.agg #[.int .u8 ((w : Nat) : Int), .int .u64 ((low w (numE o (widAt L ((k : Nat) : Int)) (vAt (valsN L a i) ((k : Nat) : Int))) : Nat) : Int)]) ∧ _
    rw [v0']
    exact one_extend w n l b m mc k1 k2 _ o h23 k (widAt L ((k : Nat) : Int)) (evN L a k) (by omega) m0 hc.2.1 hc.2.2 hw255 W (Lib.hid hV)
  rw [if_neg h23]
  by_cases h25 : x.o = 25
  · rw [if_pos h25]
    have hk : kc x.o = 3 := by rw [h25]; decide
    obtain ⟨k, e0, hki, w0, m0, v0⟩ := kid 0 (by omega)
    obtain ⟨j, e1, hji, w1, m1, v1⟩ := kid 1 (by omega)
    obtain ⟨q, e2, hqi, w2, m2, v2⟩ := kid 2 (by omega)
    unfold vecW at hvec
    rw [if_neg h3, if_neg h22, if_neg h23, if_pos h25] at hvec
    have hc : wid L x 0 = 1 ∧ wid L x 1 = wid L x 2 ∧ 1 ≤ wid L x 1 ∧ wid L x 1 ≤ 64 := by
      by_cases hc : wid L x 0 = 1 ∧ wid L x 1 = wid L x 2 ∧ 1 ≤ wid L x 1 ∧ wid L x 1 ≤ 64
      · exact hc
      · rw [if_neg hc] at hvec; exact absurd rfl hvec.1
    rw [if_pos hc] at hvec
    have hV0 := hv k hki
    have hV1 := hv j hji
    have hV2 := hv q hqi
    have g0 : widAt L (x.kid 0) = 1 := w0.symm.trans hc.1
    have g1 : widAt L (x.kid 1) = x.w := w1.symm.trans hvec.2
    have g2 : widAt L (x.kid 2) = x.w := w2.symm.trans (hc.2.1.symm.trans hvec.2)
    rw [e0] at g0 v0 m0
    rw [e1] at g1 v1 m1
    rw [e2] at g2 v2 m2
    rw [g0] at hV0 m0
    rw [g1] at hV1 m1
    rw [g2] at hV2 m2
    obtain ⟨o, w, k0, k1, k2, n, l⟩ := x
    have e0' : k0 = ((k : Nat) : Int) := e0
    have e1' : k1 = ((j : Nat) : Int) := e1
    have e2' : k2 = ((q : Nat) : Int) := e2
    subst e0' e1' e2'
    simp only at h25
    subst h25
    show Calls _ _ _ _ fun e W' => e = .returned (.agg #[.int .u8 ((w : Nat) : Int), .int .u64 (((if vAt (valsN L a i) ((k : Nat) : Int) = 1 then vAt (valsN L a i) ((j : Nat) : Int) else vAt (valsN L a i) ((q : Nat) : Int) : Nat) : Nat) : Int)]) ∧ _
    rw [v0, v1, v2]
    exact one_ite w n l b m mc _ w k (evN L a k) (by omega) m0 j (evN L a j) (by omega) m1 q (evN L a q) (by omega) m2 W (Lib.hid hV0) (Lib.hid hV1) (Lib.hid hV2)
  · rw [if_neg h25]
    unfold vecW at hvec
    rw [if_neg h3, if_neg h22, if_neg h23, if_neg h25] at hvec
    have hc : 1 ≤ wid L x 0 ∧ wid L x 0 ≤ 64 ∧ 1 ≤ wid L x 1 ∧ wid L x 1 ≤ 64 := by
      by_cases hc : 1 ≤ wid L x 0 ∧ wid L x 0 ≤ 64 ∧ 1 ≤ wid L x 1 ∧ wid L x 1 ≤ 64
      · exact hc
      · rw [if_neg hc] at hvec; exact absurd rfl hvec.1
    rw [if_pos hc] at hvec
    have ho := widthB_op hvec.1
    have hk : kc x.o = 2 := by unfold kc; rw [if_neg (by omega), if_pos (by omega)]
    obtain ⟨k, e0, hki, w0, m0, v0⟩ := kid 0 (by omega)
    obtain ⟨j, e1, hji, w1, m1, v1⟩ := kid 1 (by omega)
    have hV0 := hv k hki
    have hV1 := hv j hji
    rw [w0, w1, e0, e1] at hvec
    rw [e0] at v0 m0
    rw [e1] at v1 m1
    obtain ⟨o, w, k0, k1, k2, n, l⟩ := x
    have e0' : k0 = ((k : Nat) : Int) := e0
    have e1' : k1 = ((j : Nat) : Int) := e1
    subst e0' e1'
    show Calls _ _ _ _ fun e W' => e = .returned (.agg #[.int .u8 ((w : Nat) : Int), .int .u64 ((low w (numB o (widAt L ((k : Nat) : Int)) (widAt L ((j : Nat) : Int)) (vAt (valsN L a i) ((k : Nat) : Int)) (vAt (valsN L a i) ((j : Nat) : Int))) : Nat) : Int)]) ∧ _
    rw [v0, v1]
    have hb := one_binary w n l b m mc k2 (.slice al a.length ac) o ho k (widAt L ((k : Nat) : Int)) (evN L a k) (by omega) m0 j (widAt L ((j : Nat) : Int)) (evN L a j) (by omega) m1 hvec.1 W (Lib.hid hV0) (Lib.hid hV1)
    have hw2 : widthB o (widAt L ((k : Nat) : Int)) (widAt L ((j : Nat) : Int)) = w := hvec.2
    rw [hw2] at hb
    exact hb
end Tm
end Go.Proofs.Ytigjbngedbbdbaa

namespace Go.Proofs.Ytigjbngedbbdbaa
open Go.RowKit Go.Maps Bv
namespace Tm
set_option maxHeartbeats 2000000
set_option maxRecDepth 100000

theorem made_bv (n j : Nat) (hj : j < n * 2) : (madeCells #[Value.int .u8 0, Value.int .u64 0] (n * 2))[j]? = some (if j % 2 = 0 then .int .u8 0 else .int .u64 0) := by
  have h2 : j % 2 = 0 ∨ j % 2 = 1 := by omega
  rcases h2 with h | h <;> simp [madeCells, hj, h]

theorem info_bv : (Try.prog.info? 43).map (fun i => (i.zero, i.size, i.bytes)) = some (some (.agg #[.int .u8 0, .int .u64 0]), 2, 16) := by kernel_rfl

/-- The vectors in memory when the first i of m have been worked out. -/
structure EvAt (W : World) (L : List Nd) (a : List Nat) (m i : Nat) (w : World) : Prop where
  cs : ∀ k, k < m → w.cell? ⟨W.heap.size + 1, k * 2, none⟩ = some (.int .u8 ((if k < i then widAt L ((k : Nat) : Int) else 0 : Nat) : Int)) ∧ w.cell? ⟨W.heap.size + 1, k * 2 + 1, none⟩ = some (.int .u64 ((if k < i then evN L a k else 0 : Nat) : Int))
  fr : ∀ o, w.frozen? ⟨W.heap.size + 1, o, none⟩ = false
  l : W.heap.size + 1 < w.heap.size
  r0 : w.cell? ⟨W.heap.size, 0, none⟩ = some (.int .u8 0)
  r1 : w.cell? ⟨W.heap.size, 1, none⟩ = some (.int .u64 0)
  f0 : ∀ o, w.frozen? ⟨W.heap.size, o, none⟩ = false
  b : Below W.heap.size W w
theorem EvAt.call {W w w' : World} {L : List Nd} {a : List Nat} {m i : Nat} (h : EvAt W L a m i w) (k : Below w.heap.size w w') : EvAt W L a m i w' := by
  have l := h.l
  refine ⟨fun j hj => ⟨(k.cell (p := ⟨W.heap.size + 1, j * 2, none⟩) l).trans (h.cs j hj).1, (k.cell (p := ⟨W.heap.size + 1, j * 2 + 1, none⟩) l).trans (h.cs j hj).2⟩, fun o => (k.frozen (p := ⟨W.heap.size + 1, o, none⟩) l).trans (h.fr o), Nat.lt_of_lt_of_le l k.size,
    (k.cell (p := ⟨W.heap.size, 0, none⟩) (show W.heap.size < _ by omega)).trans h.r0, (k.cell (p := ⟨W.heap.size, 1, none⟩) (show W.heap.size < _ by omega)).trans h.r1, fun o => (k.frozen (p := ⟨W.heap.size, o, none⟩) (show W.heap.size < _ by omega)).trans (h.f0 o), bel_call h.b k⟩
theorem EvAt.alloc {W w : World} {L : List Nd} {a : List Nat} {m i : Nat} (h : EvAt W L a m i w) (o : Obj) : EvAt W L a m i (w.alloc o) := h.call (bel_alloc (Below.refl _ _) o)
theorem EvAt.vec {W w : World} {L : List Nd} {a : List Nat} {m i : Nat} (h : EvAt W L a m i w) {k : Nat} (hk : k < i) (hm : k < m) : VecAt w (W.heap.size + 1) k (widAt L ((k : Nat) : Int)) (evN L a k) := by
  have := h.cs k hm
  rw [if_pos hk, if_pos hk] at this
  exact ⟨h.l, this.1, this.2⟩
theorem EvAt.store {W w : World} {L : List Nd} {a : List Nat} {m i : Nat} (h : EvAt W L a m i w) (hi : i < m) :
    EvAt W L a m (i + 1) ((w.setCell ⟨W.heap.size + 1, i * 2, none⟩ (.int .u8 ((widAt L ((i : Nat) : Int) : Nat) : Int))).setCell ⟨W.heap.size + 1, i * 2 + 1, none⟩ (.int .u64 ((evN L a i : Nat) : Int))) := by
  refine ⟨fun k hk => ⟨?_, ?_⟩, fun o => by rw [World.frozen?_setCell, World.frozen?_setCell]; exact h.fr o, by simpa [World.setCell] using h.l, ?_, ?_, fun o => by rw [World.frozen?_setCell, World.frozen?_setCell]; exact h.f0 o, (h.b.setCell (Nat.le_succ _) _).setCell (Nat.le_succ _) _⟩
  · rw [World.cell?_setCell_other _ _ _ _ (by simp; try omega)]
    by_cases e : k = i
    · subst e
      rw [if_pos (by omega)]
      exact World.cell?_setCell_same' _ _ _ (by rw [(h.cs k hk).1]; rfl)
    · rw [World.cell?_setCell_other _ _ _ _ (by simp; try omega), (h.cs k hk).1]
      by_cases hlt : k < i
      · rw [if_pos hlt, if_pos (by omega)]
      · rw [if_neg hlt, if_neg (by omega)]
  · by_cases e : k = i
    · subst e
      rw [if_pos (by omega)]
      exact World.cell?_setCell_same' _ _ _ (by rw [World.cell?_setCell_other _ _ _ _ (by simp), (h.cs k hk).2]; rfl)
    · rw [World.cell?_setCell_other _ _ _ _ (by simp; try omega), World.cell?_setCell_other _ _ _ _ (by simp; try omega), (h.cs k hk).2]
      by_cases hlt : k < i
      · rw [if_pos hlt, if_pos (by omega)]
      · rw [if_neg hlt, if_neg (by omega)]
  · rw [World.cell?_setCell_far _ _ _ _ (by simp), World.cell?_setCell_far _ _ _ _ (by simp)]; exact h.r0
  · rw [World.cell?_setCell_far _ _ _ _ (by simp), World.cell?_setCell_far _ _ _ _ (by simp)]; exact h.r1

theorem ev_start (W : World) (L : List Nd) (a : List Nat) (m : Nat) : EvAt W L a m 0 ((W.alloc (.cells #[.int .u8 0, .int .u64 0] 43)).alloc (.cells (madeCells #[.int .u8 0, .int .u64 0] (m * 2)) 43)) := by
  have h1 := (MapKept.heap_alloc W (.cells #[.int .u8 0, .int .u64 0] 43)).1
  have s1 : (W.alloc (.cells #[.int .u8 0, .int .u64 0] 43)).heap.size = W.heap.size + 1 := size_alloc _ _
  have b1 : Below W.heap.size W (W.alloc (.cells #[.int .u8 0, .int .u64 0] 43)) := bel_alloc (Below.refl _ _) _
  generalize W.alloc (.cells #[.int .u8 0, .int .u64 0] 43) = w1 at h1 s1 b1 ⊢
  have hz := made_bv m
  generalize madeCells #[.int .u8 0, .int .u64 0] (m * 2) = C at hz ⊢
  have h2 := (MapKept.heap_alloc w1 (.cells C 43)).1
  rw [s1] at h2
  have l1 : W.heap.size < w1.heap.size := by omega
  refine ⟨fun k hk => ⟨?_, ?_⟩, fun o => ?_, by rw [size_alloc]; omega, ?_, ?_, fun o => ?_, bel_alloc b1 _⟩
  · unfold World.cell?
    rw [h2]
    show C[k * 2]? = _
    rw [hz _ (by omega), if_pos (by omega), if_neg (by omega)]
    rfl
  · unfold World.cell?
    rw [h2]
    show C[k * 2 + 1]? = _
    rw [hz _ (by omega), if_neg (by omega), if_neg (by omega)]
    rfl
  · unfold World.frozen?
    rw [h2]
    simp
  · rw [World.cell?_alloc_lt _ _ _ l1]; unfold World.cell?; rw [h1]; rfl
  · rw [World.cell?_alloc_lt _ _ _ l1]; unfold World.cell?; rw [h1]; rfl
  · rw [World.frozen?_alloc_old _ _ _ (show W.heap.size ≠ _ by omega)]; unfold World.frozen?; rw [h1]; simp

theorem reval_any {B p k : Nat} {rv : Value} {L : List Nd} {a : List Nat} {W : World} {al : Option Addr} {ac : Nat} (S : RefAt B W p rv L) (hM : MayL L) (hk : k < L.length) (HA : AsgAt W al a) :
    Calls Try.prog 10 #[.pointer (some ⟨p, 0, none⟩), .int .i64 ((k : Nat) : Int), .slice al a.length ac] W fun e W' =>
      e = .returned (.agg #[.int .u8 ((widAt L ((k : Nat) : Int) : Nat) : Int), .int .u64 ((evN L a k : Nat) : Int)]) ∧ Below W.heap.size W W' := by
  have HS := Lib.hid S
  obtain ⟨sa, sc, rfl⟩ := S.shape
  have hlen := S.good.len
  have HG := Lib.hid S.good
  have HMM := Lib.hid hM
  have HAA := Lib.hid HA
  have hk0 : (0 : Int) ≤ ((k : Nat) : Int) := by omega
  obtain ⟨i0, hinfo, hz0, hz1, hz2⟩ := info_parts info_bv
  have hmk : ∀ W, (Instr.makeSlice 73 (.int .i64 (((k : Nat) : Int) + 1)) (.int .i64 (((k : Nat) : Int) + 1))).run Try.prog W = .ok (.slice (some ⟨W.heap.size, 0, none⟩) (k + 1) (k + 1)) (W.alloc (.cells (madeCells #[.int .u8 0, .int .u64 0] ((k + 1) * 2)) 43)) := by
    intro W
    have h := run_make W 73 43 i0 (.agg #[.int .u8 0, .int .u64 0]) Try.underlying73 hinfo hz0 .i64 .i64 (((k : Nat) : Int) + 1) (((k : Nat) : Int) + 1) (by omega) (Int.le_refl _) (by rw [hz2]; omega) (by omega)
    have htn : (((k : Nat) : Int) + 1).toNat = k + 1 := by omega
    rw [hz1, htn] at h
    exact h
  have H0 := Lib.hid (ev_start W L a (k + 1))
  have hkb : ((k : Nat) : Int) ≤ 200000 := by omega
  have HK := Lib.hid hk
  clear hinfo hz0 hz1 hz2 S hM HA hk
  go_enter Try.func10, Try.ntmps10
  go_wp2_with fail
  go_loopg [8] (k + 1) (fun gk u8 wr => ∃ i : Nat, u8 = .int .i64 ((i : Nat) : Int) ∧ i + gk = k + 1 ∧ EvAt W L a (k + 1) i wr)
  case atStart => exact ⟨0, rfl, by omega, H0.out⟩
  case round =>
    obtain ⟨i, rfl, hg, hev⟩ := hrel
    clear H0 hmk
    have HE := Lib.hid hev
    have HGK := Lib.hid hg
    have lw := hev.l
    by_cases hi : i < k + 1
    case neg =>
      have hie : i = k + 1 := by omega
      subst hie
      have q1 : ((k : Nat) : Int) < ((k : Nat) : Int) + 1 := by omega
      have q2 : ((k : Nat) : Int) < ((k + 1 : Nat) : Int) := by omega
      have hc := hev.cs k (by omega)
      rw [if_pos (by omega), if_pos (by omega)] at hc
      obtain ⟨c0, c1⟩ := hc
      have g4 := hev.r0
      have g5 := hev.r1
      have g6 := hev.f0 0
      have g7 := hev.f0 1
      obtain ⟨y, hy⟩ : ∃ y, widAt L ((k : Nat) : Int) = y := ⟨_, rfl⟩
      obtain ⟨z, hz⟩ : ∃ z, evN L a k = z := ⟨_, rfl⟩
      rw [hy] at c0
      rw [hz] at c1
      have HYZ := Lib.hid (And.intro hy hz)
      have HB := Lib.hid hev.b
      clear hev hg hi hy hz
      go_wp2_with fail
      exact bodyPost_ret (v := .agg #[.int .u8 ((y : Nat) : Int), .int .u64 ((z : Nat) : Int)]) (by simp [results, Try.results10, go_sem, g4, g5]) rfl ⟨by rw [HYZ.out.1, HYZ.out.2], (HB.out.setCell (Nat.le_refl _) _).setCell (Nat.le_refl _) _⟩
    case pos =>
      have hil : i < L.length := by have := HK.out; omega
      obtain ⟨x, hx⟩ : ∃ x, L[i]? = some x := ⟨_, List.getElem?_eq_getElem hil⟩
      have SR := HS.out.call hev.b
      obtain ⟨g, gc, hsg, hcg⟩ := row_nd_at SR.row hx
      simp only [Value.slice.injEq] at hsg
      obtain ⟨rfl, _, rfl⟩ := hsg
      obtain ⟨m0, m1, m2, m3, m4, m5, m6⟩ := cells_near (fun j u hj => hcg i x hx j u hj)
      have lg : g < wr.heap.size := World.block_lt_of_cell? wr _ m0
      have s0 := SR.c0
      have lpr := SR.lt
      have q0 : (0 : Int) ≤ ((i : Nat) : Int) := by omega
      have q1 : ((i : Nat) : Int) < ((L.length : Nat) : Int) := by omega
      have q2 : ((i : Nat) : Int) < ((k + 1 : Nat) : Int) := by omega
      have q3 : ((i : Nat) : Int) ≤ ((k : Nat) : Int) := by omega
      have q4 : ((i : Nat) : Int) < ((k : Nat) : Int) + 1 := by omega
      have r1 : IntKind.i64.wrap (((i : Nat) : Int) + 1) = (((i + 1 : Nat) : Nat) : Int) := by rw [IntKind.wrap_i64]; omega
      have r2 : wrap64 (((i : Nat) : Int) + 1) = (((i + 1 : Nat) : Nat) : Int) := by unfold wrap64; rw [← IntKind.wrap_i64]; exact r1
      have HR2 := Lib.hid r2
      have HI := Lib.hid hi
      have HEA := Lib.hid (hev.alloc (.cells #[.int .u8 ((x.o : Nat) : Int), .int .u8 ((x.w : Nat) : Int), .int .i64 x.k0, .int .i64 x.k1, .int .i64 x.k2, .int .u64 ((x.n : Nat) : Int), .int .u8 ((x.l : Nat) : Int)] 57))
      have HCALL := Lib.hid (rone_any (b := W.heap.size + 1) (m := k + 1) (mc := k + 1) (ac := ac) HG.out HMM.out hx (by omega) ((HAA.out.keep HEA.out.b)) (fun j hj => HEA.out.vec hj (by omega)))
      unfold Nd.val at HCALL
      have hxw : x.w = widAt L ((i : Nat) : Int) := by
        unfold widAt
        rw [show ((i : Nat) : Int).toNat = i by omega, hx]
        rfl
      obtain ⟨z, hz⟩ : ∃ z, evN L a i = z := ⟨_, rfl⟩
      have HST := Lib.hid (fun w5 (h : EvAt W L a (k + 1) i w5) => h.store hi)
      rw [← hxw] at HST
      rw [hz] at HST HCALL
      have c0 := fun w5 (h : EvAt W L a (k + 1) i w5) => (h.cs i hi).1
      have c1 := fun w5 (h : EvAt W L a (k + 1) i w5) => (h.cs i hi).2
      simp only [Nat.lt_irrefl, if_false] at c0 c1
      have HC0 := Lib.hid c0
      have HC1 := Lib.hid c1
      clear c0 c1 hev hg hi hil hx SR hcg r1 r2 hxw hz
      go_wp2_with (go_at_call 22; refine HCALL.out.mono ?_; rintro e w5 ⟨rfl, hb5⟩; have H5 := Lib.hid (HEA.out.call hb5); have t0 := HC0.out w5 H5.out; have t1 := HC1.out w5 H5.out; have t2 := H5.out.fr (i * 2); have t3 := H5.out.fr (i * 2 + 1); have t4 := H5.out.l)
      go_roundg (gk - 1)
      case measure => have := HGK.out; have := HI.out; omega
      case rel => exact ⟨i + 1, by first | rfl | (rw [HR2.out]) | (congr 1; exact HR2.out), by have := HGK.out; have := HI.out; omega, HST.out w5 H5.out⟩
end Tm
end Go.Proofs.Ytigjbngedbbdbaa
