/-
  The document's own vector of each node, and its Eval, as facts on one call.
-/
import Derived.Test.YtjhghfndhpaapaaEvOne
import Derived.Test.YtjhghfndhpaapaaTmRefB
import Derived.Deep.LoopGhost
namespace Go.Proofs.Ytjhghfndhpaapaa
open Go.RowKit Go.Maps Bv
namespace Tm
set_option maxHeartbeats 1000000
set_option maxRecDepth 100000

/-- An assignment that was handed in: a list of numbers in memory. -/
structure AsgAt (W : World) (al : Option Addr) (a : List Nat) : Prop where
  at' : a = [] ∨ ∃ ab ao, al = some ⟨ab, ao, none⟩ ∧ ab < W.heap.size ∧ ∀ (j v : Nat), a[j]? = some v → W.cell? ⟨ab, ao + j, none⟩ = some (.int .u64 ((v : Nat) : Int))
  ok : ∀ v ∈ a, v < 18446744073709551616
  len : a.length < 9223372036854775808
theorem AsgAt.keep {W w : World} {al : Option Addr} {a : List Nat} (h : AsgAt W al a) (hb : Below W.heap.size W w) : AsgAt w al a := by
  refine ⟨h.at'.imp id ?_, h.ok, h.len⟩
  rintro ⟨ab, ao, h1, h2, h3⟩
  exact ⟨ab, ao, h1, Nat.lt_of_lt_of_le h2 hb.size, fun j v hj => (hb.cell (p := ⟨ab, ao + j, none⟩) h2).trans (h3 j v hj)⟩

theorem rone_any {W : World} {L : List Nd} {a : List Nat} {i : Nat} {x : Nd} {b m mc ac : Nat} {al : Option Addr} (g : Gd L) (hM : MayL L) (hx : L[i]? = some x) (hm : i < m) (HA : AsgAt W al a)
    (hv : ∀ k, k < i → VecAt W b k (widAt L ((k : Nat) : Int)) (evN L a k)) :
    Calls Try.prog 19 #[x.val, .slice (some ⟨b, 0, none⟩) m mc, .slice al a.length ac] W fun e W' => e = .returned (.agg #[.int .u8 ((x.w : Nat) : Int), .int .u64 ((evN L a i : Nat) : Int)]) ∧ Below W.heap.size W W' := by
  have hok := g.ok x (List.mem_of_getElem? hx)
  have hw := g.w x (List.mem_of_getElem? hx)
  rw [evN_is hx]
  have kid : ∀ j, j < kc x.o → ∃ k : Nat, x.kid j = ((k : Nat) : Int) ∧ k < i ∧ wid L x j = widAt L (x.kid j) ∧ mayB (widAt L (x.kid j)) (evN L a k) = true ∧ vAt (valsN L a i) (x.kid j) = evN L a k := by
    intro j hj
    have hkj := mayL_kids hM hx j hj
    have hl := (List.getElem?_eq_some_iff.1 hx).1
    refine ⟨(x.kid j).toNat, by omega, by omega, by unfold wid; rw [if_pos hj], ?_, vAt_ev hkj.1 hkj.2⟩
    obtain ⟨y, hy⟩ : ∃ y, L[(x.kid j).toNat]? = some y := ⟨_, List.getElem?_eq_getElem (by omega)⟩
    have := ev_may g hM a _ y hy
    unfold widAt
    rw [hy]
    exact this
  by_cases h1 : x.o = 1
  · unfold oneN
    rw [if_pos h1]
    obtain ⟨o, w, k0, k1, k2, n, l⟩ := x
    simp only at h1
    subst h1
    exact one_const w n l k0 k1 k2 _ _ W
  by_cases h2 : x.o = 2
  · unfold oneN asg
    rw [if_neg h1, if_pos h2]
    have hn := g.var x (List.mem_of_getElem? hx) h2
    obtain ⟨o, w, k0, k1, k2, n, l⟩ := x
    simp only at h2 hw
    subst h2
    by_cases hna : n < a.length
    · show Calls _ _ _ _ fun e W' => e = .returned (.agg #[_, .int .u64 (((if n < a.length then low w (a.getD n 0) else 0 : Nat) : Nat) : Int)]) ∧ _
      rw [if_pos hna]
      obtain ⟨v, hv'⟩ : ∃ v, a[n]? = some v := ⟨_, List.getElem?_eq_getElem hna⟩
      rcases HA.at' with h | ⟨ab, ao, rfl, hab, hc⟩
      · subst h; simp at hna
      · have e : a.getD n 0 = v := by rw [List.getD_eq_getElem?_getD, hv']; rfl
        rw [e]
        exact one_var_in w n l a.length ac ab ao v k0 k1 k2 _ hw.2 hna HA.len (HA.ok v (List.mem_of_getElem? hv')) W hab (hc n v hv')
    · show Calls _ _ _ _ fun e W' => e = .returned (.agg #[_, .int .u64 (((if n < a.length then low w (a.getD n 0) else 0 : Nat) : Nat) : Int)]) ∧ _
      rw [if_neg hna]
      exact one_var_out w n l a.length ac k0 k1 k2 _ al hw.2 (by omega) HA.len W
  have hvec := mayL_vec hM hx h1 h2
  unfold oneN
  rw [if_neg h1, if_neg h2]
  by_cases h3 : x.o = 3 ∨ x.o = 4
  · rw [if_pos h3]
    have hk : kc x.o = 1 := by unfold kc; rw [if_pos (by omega)]
    obtain ⟨k, e0, hki, w0, m0, v0⟩ := kid 0 (by omega)
    unfold vecW at hvec
    rw [if_pos h3] at hvec
    have hww : wid L x 0 = x.w := by
      by_cases hc : 1 ≤ wid L x 0 ∧ wid L x 0 ≤ 64
      · rw [if_pos hc] at hvec; exact hvec.2
      · rw [if_neg hc] at hvec; exact absurd rfl hvec.1
    have hV := hv k hki
    obtain ⟨o, w, k0, k1, k2, n, l⟩ := x
    have e0' : k0 = ((k : Nat) : Int) := e0
    subst e0'
    have hwa : widAt L ((k : Nat) : Int) = w := w0.symm.trans hww
    have v0' : vAt (valsN L a i) ((k : Nat) : Int) = evN L a k := v0
    have m0' : mayB (widAt L ((k : Nat) : Int)) (evN L a k) = true := m0
    show Calls _ _ _ _ fun e W' => e = .returned (.agg #[.int .u8 ((w : Nat) : Int), .int .u64 ((low w (numU o (vAt (valsN L a i) ((k : Nat) : Int))) : Nat) : Int)]) ∧ _
    rw [v0']
    rw [hwa] at hV m0'
    exact one_unary w n l b m mc k1 k2 _ o h3 k w (evN L a k) (by omega) m0' W (Lib.hid hV)
  rw [if_neg h3]
  by_cases h22 : x.o = 22
  · rw [if_pos h22]
    have hk : kc x.o = 1 := by rw [h22]; decide
    obtain ⟨k, e0, hki, w0, m0, v0⟩ := kid 0 (by omega)
    unfold vecW at hvec
    rw [if_neg h3, if_pos h22] at hvec
    have hc : 1 ≤ wid L x 0 ∧ wid L x 0 ≤ 64 ∧ 1 ≤ x.w ∧ x.l + x.w ≤ wid L x 0 := by
      by_cases hc : 1 ≤ wid L x 0 ∧ wid L x 0 ≤ 64 ∧ 1 ≤ x.w ∧ x.l + x.w ≤ wid L x 0
      · exact hc
      · rw [if_neg hc] at hvec; exact absurd rfl hvec.1
    rw [w0] at hc
    have hV := hv k hki
    have hl255 := hok.l
    have hw255 := hok.w
    obtain ⟨o, w, k0, k1, k2, n, l⟩ := x
    have e0' : k0 = ((k : Nat) : Int) := e0
    subst e0'
    have v0' : vAt (valsN L a i) ((k : Nat) : Int) = evN L a k := v0
    simp only at h22
    subst h22
    show Calls _ _ _ _ fun e W' => e = .returned (.agg #[.int .u8 ((w : Nat) : Int), .int .u64 ((low w (vAt (valsN L a i) ((k : Nat) : Int) / 2 ^ l) : Nat) : Int)]) ∧ _
    rw [v0']
    exact one_extract w n l b m mc k1 k2 _ k (widAt L ((k : Nat) : Int)) (evN L a k) (by omega) m0 hc.2.2.1 hc.2.2.2 hl255 hw255 W (Lib.hid hV)
  rw [if_neg h22]
  by_cases h23 : x.o = 23 ∨ x.o = 24
  · rw [if_pos h23]
    have hk : kc x.o = 1 := by unfold kc; rw [if_pos (by omega)]
    obtain ⟨k, e0, hki, w0, m0, v0⟩ := kid 0 (by omega)
    unfold vecW at hvec
    rw [if_neg h3, if_neg h22, if_pos h23] at hvec
    have hc : 1 ≤ wid L x 0 ∧ wid L x 0 ≤ x.w ∧ x.w ≤ 64 := by
      by_cases hc : 1 ≤ wid L x 0 ∧ wid L x 0 ≤ x.w ∧ x.w ≤ 64
      · exact hc
      · rw [if_neg hc] at hvec; exact absurd rfl hvec.1
    rw [w0] at hc
    have hV := hv k hki
    have hw255 := hok.w
    obtain ⟨o, w, k0, k1, k2, n, l⟩ := x
    have e0' : k0 = ((k : Nat) : Int) := e0
    subst e0'
    have v0' : vAt (valsN L a i) ((k : Nat) : Int) = evN L a k := v0
    show Calls _ _ _ _ fun e W' => e = .returned (.agg #[.int .u8 ((w : Nat) : Int), .int .u64 ((low w (numE o (widAt L ((k : Nat) : Int)) (vAt (valsN L a i) ((k : Nat) : Int))) : Nat) : Int)]) ∧ _
    rw [v0']
    exact one_extend w n l b m mc k1 k2 _ o h23 k (widAt L ((k : Nat) : Int)) (evN L a k) (by omega) m0 hc.2.1 hc.2.2 hw255 W (Lib.hid hV)
  rw [if_neg h23]
  by_cases h25 : x.o = 25
  · rw [if_pos h25]
    have hk : kc x.o = 3 := by rw [h25]; decide
    obtain ⟨k, e0, hki, w0, m0, v0⟩ := kid 0 (by omega)
    obtain ⟨j, e1, hji, w1, m1, v1⟩ := kid 1 (by omega)
    obtain ⟨q, e2, hqi, w2, m2, v2⟩ := kid 2 (by omega)
    unfold vecW at hvec
    rw [if_neg h3, if_neg h22, if_neg h23, if_pos h25] at hvec
    have hc : wid L x 0 = 1 ∧ wid L x 1 = wid L x 2 ∧ 1 ≤ wid L x 1 ∧ wid L x 1 ≤ 64 := by
      by_cases hc : wid L x 0 = 1 ∧ wid L x 1 = wid L x 2 ∧ 1 ≤ wid L x 1 ∧ wid L x 1 ≤ 64
      · exact hc
      · rw [if_neg hc] at hvec; exact absurd rfl hvec.1
    rw [if_pos hc] at hvec
    have hV0 := hv k hki
    have hV1 := hv j hji
    have hV2 := hv q hqi
    have g0 : widAt L (x.kid 0) = 1 := w0.symm.trans hc.1
    have g1 : widAt L (x.kid 1) = x.w := w1.symm.trans hvec.2
    have g2 : widAt L (x.kid 2) = x.w := w2.symm.trans (hc.2.1.symm.trans hvec.2)
    rw [e0] at g0 v0 m0
    rw [e1] at g1 v1 m1
    rw [e2] at g2 v2 m2
    rw [g0] at hV0 m0
    rw [g1] at hV1 m1
    rw [g2] at hV2 m2
    obtain ⟨o, w, k0, k1, k2, n, l⟩ := x
    have e0' : k0 = ((k : Nat) : Int) := e0
    have e1' : k1 = ((j : Nat) : Int) := e1
    have e2' : k2 = ((q : Nat) : Int) := e2
    subst e0' e1' e2'
    simp only at h25
    subst h25
    show Calls _ _ _ _ fun e W' => e = .returned (.agg #[.int .u8 ((w : Nat) : Int), .int .u64 (((if vAt (valsN L a i) ((k : Nat) : Int) = 1 then vAt (valsN L a i) ((j : Nat) : Int) else vAt (valsN L a i) ((q : Nat) : Int) : Nat) : Nat) : Int)]) ∧ _
    rw [v0, v1, v2]
    exact one_ite w n l b m mc _ w k (evN L a k) (by omega) m0 j (evN L a j) (by omega) m1 q (evN L a q) (by omega) m2 W (Lib.hid hV0) (Lib.hid hV1) (Lib.hid hV2)
  · rw [if_neg h25]
    unfold vecW at hvec
    rw [if_neg h3, if_neg h22, if_neg h23, if_neg h25] at hvec
    have hc : 1 ≤ wid L x 0 ∧ wid L x 0 ≤ 64 ∧ 1 ≤ wid L x 1 ∧ wid L x 1 ≤ 64 := by
      by_cases hc : 1 ≤ wid L x 0 ∧ wid L x 0 ≤ 64 ∧ 1 ≤ wid L x 1 ∧ wid L x 1 ≤ 64
      · exact hc
      · rw [if_neg hc] at hvec; exact absurd rfl hvec.1
    rw [if_pos hc] at hvec
    have ho := widthB_op hvec.1
    have hk : kc x.o = 2 := by unfold kc; rw [if_neg (by omega), if_pos (by omega)]
    obtain ⟨k, e0, hki, w0, m0, v0⟩ := kid 0 (by omega)
    obtain ⟨j, e1, hji, w1, m1, v1⟩ := kid 1 (by omega)
    have hV0 := hv k hki
    have hV1 := hv j hji
    rw [w0, w1, e0, e1] at hvec
    rw [e0] at v0 m0
    rw [e1] at v1 m1
    obtain ⟨o, w, k0, k1, k2, n, l⟩ := x
    have e0' : k0 = ((k : Nat) : Int) := e0
    have e1' : k1 = ((j : Nat) : Int) := e1
    subst e0' e1'
    show Calls _ _ _ _ fun e W' => e = .returned (.agg #[.int .u8 ((w : Nat) : Int), .int .u64 ((low w (numB o (widAt L ((k : Nat) : Int)) (widAt L ((j : Nat) : Int)) (vAt (valsN L a i) ((k : Nat) : Int)) (vAt (valsN L a i) ((j : Nat) : Int))) : Nat) : Int)]) ∧ _
    rw [v0, v1]
    have hb := one_binary w n l b m mc k2 (.slice al a.length ac) o ho k (widAt L ((k : Nat) : Int)) (evN L a k) (by omega) m0 j (widAt L ((j : Nat) : Int)) (evN L a j) (by omega) m1 hvec.1 W (Lib.hid hV0) (Lib.hid hV1)
    have hw2 : widthB o (widAt L ((k : Nat) : Int)) (widAt L ((j : Nat) : Int)) = w := hvec.2
    rw [hw2] at hb
    exact hb
end Tm
end Go.Proofs.Ytjhghfndhpaapaa
