/-
  The vector of whatever node, out of the map of those that stand already, as a fact on one call.
-/
import Derived.Test.YtjhghfndhpaapaaEvVec
import Derived.Test.YtjhghfndhpaapaaEvSet
namespace Go.Proofs.Ytjhghfndhpaapaa
open Go.RowKit Go.Maps Bv
namespace Tm
set_option maxHeartbeats 1000000
set_option maxRecDepth 100000

theorem given_out (n alen ac : Nat) (al : Option Addr) (ha : alen < 9223372036854775808) (hn : alen ≤ n) (W : World) :
    Calls Try.prog 41 #[.int .u64 ((n : Nat) : Int), .slice al alen ac] W fun e W' => e = .returned (.agg #[.int .u8 64, .int .u64 ((0 : Nat) : Int)]) ∧ Below W.heap.size W W' := by
  have cw : IntKind.u64.wrap ((alen : Nat) : Int) = ((alen : Nat) : Int) := by rw [IntKind.wrap_u64]; omega
  have d : decide (n < alen) = false := decide_eq_false (by omega)
  clear ha hn
  go_enter Try.func41, Try.ntmps41
  go_wp2_with fail
  exact bodyPost_ret (v := .agg #[.int .u8 64, .int .u64 ((0 : Nat) : Int)]) (by simp [results, Try.results41, go_sem]) rfl ⟨rfl, by repeat (first | exact Below.refl _ _ | (refine Below.setCell ?_ (by simp; try omega) _) | (refine bel_alloc ?_ _) | (refine Below.drew ?_) | (refine bel_drewN ?_ _))⟩

theorem given_in (n alen ac ab ao v : Nat) (ha : alen < 9223372036854775808) (hn : n < alen) (W : World) (hab : ab < W.heap.size) (hc : W.cell? ⟨ab, ao + n, none⟩ = some (.int .u64 ((v : Nat) : Int))) :
    Calls Try.prog 41 #[.int .u64 ((n : Nat) : Int), .slice (some ⟨ab, ao, none⟩) alen ac] W fun e W' => e = .returned (.agg #[.int .u8 64, .int .u64 ((v : Nat) : Int)]) ∧ Below W.heap.size W W' := by
  have cw : IntKind.u64.wrap ((alen : Nat) : Int) = ((alen : Nat) : Int) := by rw [IntKind.wrap_u64]; omega
  have q1 : ((n : Nat) : Int) < ((alen : Nat) : Int) := by omega
  have q0 : (0 : Int) ≤ ((n : Nat) : Int) := by omega
  clear ha
  go_enter Try.func41, Try.ntmps41
  go_wp2_with fail
  exact bodyPost_ret (v := .agg #[.int .u8 64, .int .u64 ((v : Nat) : Int)]) (by simp [results, Try.results41, go_sem]) rfl ⟨rfl, by repeat (first | exact Below.refl _ _ | (refine bel_alloc ?_ _))⟩

theorem ite_ok (cn w n m : Nat) (hc : mayB 1 cn = true) (ha : mayB w n = true) (hb : mayB w m = true) (W : World) :
    Calls Try.prog 44 #[.agg #[.int .u8 ((1 : Nat) : Int), .int .u64 ((cn : Nat) : Int)], .agg #[.int .u8 ((w : Nat) : Int), .int .u64 ((n : Nat) : Int)], .agg #[.int .u8 ((w : Nat) : Int), .int .u64 ((m : Nat) : Int)]] W fun e W' => e = .returned (.tuple #[.agg #[.int .u8 ((w : Nat) : Int), .int .u64 ((if cn = 1 then n else m : Nat) : Int)], .int .i64 0]) ∧ Below W.heap.size W W' := by
  by_cases h : cn = 1
  · rw [if_pos h]
    exact ite_a 1 cn w n w m (Lib.hid hc) (Lib.hid ha) (Lib.hid hb) (by simp) (by simp) (by simp; omega) W
  · rw [if_neg h]
    exact ite_b 1 cn w n w m (Lib.hid hc) (Lib.hid ha) (Lib.hid hb) (by simp) (by simp) (by simp; omega) W

theorem vec_any {W : World} {L : List Nd} {a N : List Nat} {k b n ac : Nat} {x : Nd} {D : DataW Unit} {al : Option Addr} (g : Gd L) (hM : MayL L) (hx : L[k]? = some x) (hO : W.ownsMap Try.prog 3 bvElem b n D) (hV : ValTab L a N D)
    (hkids : ∀ j, j < kc x.o → (x.kid j).toNat ∈ N) (HA : AsgAt W al a) :
    Calls Try.prog 22 #[x.val, .map (some b), .slice al a.length ac] W fun e W' => e = .returned (.tuple #[.agg #[.int .u8 ((x.w : Nat) : Int), .int .u64 ((evN L a k : Nat) : Int)], .int .i64 0]) ∧ Below W.heap.size W W' := by
  have hm := List.mem_of_getElem? hx
  have hok := g.ok x hm
  have hw := g.w x hm
  have LK : LookAt W b x.k0 x.k1 x.k2 (vwN L N x.k0) (vnN L a N x.k0) (vwN L N x.k1) (vnN L a N x.k1) (vwN L N x.k2) (vnN L a N x.k2) := by
    refine ⟨hO.lt, fun w' e => ?_⟩
    have hO' : w'.ownsMap Try.prog 3 bvElem b n D := by
      obtain ⟨es, clock, hb, r⟩ := hO
      exact ⟨es, clock, e.trans hb, r⟩
    exact ⟨look_bv hO' hV hok.k0, look_bv hO' hV hok.k1, look_bv hO' hV hok.k2⟩
  rw [evN_is hx]
  have kid : ∀ j, j < kc x.o → vwN L N (x.kid j) = widAt L (x.kid j) ∧ vnN L a N (x.kid j) = vAt (valsN L a k) (x.kid j) ∧ wid L x j = widAt L (x.kid j) ∧ mayB (widAt L (x.kid j)) (vAt (valsN L a k) (x.kid j)) = true := by
    intro j hj
    have hkj := mayL_kids hM hx j hj
    have hl := (List.getElem?_eq_some_iff.1 hx).1
    have e : x.kid j = (((x.kid j).toNat : Nat) : Int) := by omega
    have hin := hkids j hj
    have hv := vAt_ev (L := L) (a := a) hkj.1 hkj.2
    refine ⟨?_, ?_, by unfold wid; rw [if_pos hj], ?_⟩
    · have := vwN_in (L := L) hin; rw [← e] at this; exact this
    · have := vnN_in (L := L) (a := a) hin; rw [← e] at this; rw [this, hv]
    · obtain ⟨y, hy⟩ : ∃ y, L[(x.kid j).toNat]? = some y := ⟨_, List.getElem?_eq_getElem (by omega)⟩
      have := ev_may g hM a _ y hy
      rw [hv]
      unfold widAt
      rw [hy]
      exact this
  by_cases h1 : x.o = 1
  · unfold oneN
    rw [if_pos h1]
    obtain ⟨o, w, k0, k1, k2, n', l⟩ := x
    simp only at h1
    subst h1
    exact vec_const w n' l b k0 k1 k2 _ _ _ _ _ _ W _ (Lib.hid LK)
  by_cases h2 : x.o = 2
  · unfold oneN asg
    rw [if_neg h1, if_pos h2]
    obtain ⟨o, w, k0, k1, k2, n', l⟩ := x
    simp only at h2 hw
    subst h2
    by_cases hna : n' < a.length
    · show Calls _ _ _ _ fun e W' => e = .returned (.tuple #[.agg #[_, .int .u64 (((if n' < a.length then low w (a.getD n' 0) else 0 : Nat) : Nat) : Int)], _]) ∧ _
      rw [if_pos hna]
      obtain ⟨v, hv'⟩ : ∃ v, a[n']? = some v := ⟨_, List.getElem?_eq_getElem hna⟩
      have hv64 := HA.ok v (List.mem_of_getElem? hv')
      rcases HA.at' with h | ⟨ab, ao, rfl, hab, hc⟩
      · subst h; simp at hna
      · have e : a.getD n' 0 = v := by rw [List.getD_eq_getElem?_getD, hv']; rfl
        rw [e]
        exact vec_var w n' l b k0 k1 k2 _ _ _ _ _ _ W _ v (mayB_mk (by omega) (by omega) hv64) hw.1 hw.2 (Lib.hid (fun w5 hb => given_in n' a.length ac ab ao v HA.len hna w5 (Nat.lt_of_lt_of_le hab hb.size) ((hb.cell (p := ⟨ab, ao + n', none⟩) hab).trans (hc n' v hv')))) (Lib.hid LK)
    · show Calls _ _ _ _ fun e W' => e = .returned (.tuple #[.agg #[_, .int .u64 (((if n' < a.length then low w (a.getD n' 0) else 0 : Nat) : Nat) : Int)], _]) ∧ _
      rw [if_neg hna]
      have h := vec_var w n' l b k0 k1 k2 _ _ _ _ _ _ W (.slice al a.length ac) 0 (mayB_mk (by omega) (by omega) (pow_pos' _)) hw.1 hw.2 (Lib.hid (fun w5 _ => given_out n' a.length ac al HA.len (by omega) w5)) (Lib.hid LK)
      rw [low_zero] at h
      exact h
  have hvec := mayL_vec hM hx h1 h2
  unfold oneN
  rw [if_neg h1, if_neg h2]
  by_cases h3 : x.o = 3 ∨ x.o = 4
  · rw [if_pos h3]
    have hk : kc x.o = 1 := by unfold kc; rw [if_pos (by omega)]
    obtain ⟨a0, b0, c0, m0⟩ := kid 0 (by omega)
    unfold vecW at hvec
    rw [if_pos h3] at hvec
    have hww : wid L x 0 = x.w := by
      by_cases hc : 1 ≤ wid L x 0 ∧ wid L x 0 ≤ 64
      · rw [if_pos hc] at hvec; exact hvec.2
      · rw [if_neg hc] at hvec; exact absurd rfl hvec.1
    rw [c0] at hww
    obtain ⟨o, w, k0, k1, k2, n', l⟩ := x
    have a0' : vwN L N k0 = w := a0.trans hww
    have b0' : vnN L a N k0 = vAt (valsN L a k) k0 := b0
    have m0' : mayB w (vAt (valsN L a k) k0) = true := by have h := m0; rw [hww] at h; exact h
    simp only [a0', b0'] at LK
    exact vec_unary w n' l b k0 k1 k2 _ _ _ _ _ _ W _ o h3 m0' (Lib.hid LK)
  rw [if_neg h3]
  by_cases h22 : x.o = 22
  · rw [if_pos h22]
    have hk : kc x.o = 1 := by rw [h22]; decide
    obtain ⟨a0, b0, c0, m0⟩ := kid 0 (by omega)
    unfold vecW at hvec
    rw [if_neg h3, if_pos h22] at hvec
    have hc : 1 ≤ wid L x 0 ∧ wid L x 0 ≤ 64 ∧ 1 ≤ x.w ∧ x.l + x.w ≤ wid L x 0 := by
      by_cases hc : 1 ≤ wid L x 0 ∧ wid L x 0 ≤ 64 ∧ 1 ≤ x.w ∧ x.l + x.w ≤ wid L x 0
      · exact hc
      · rw [if_neg hc] at hvec; exact absurd rfl hvec.1
    rw [c0] at hc
    obtain ⟨o, w, k0, k1, k2, n', l⟩ := x
    have a0' : vwN L N k0 = widAt L k0 := a0
    have b0' : vnN L a N k0 = vAt (valsN L a k) k0 := b0
    simp only at h22
    subst h22
    simp only [a0', b0'] at LK
    exact vec_extract w n' l b k0 k1 k2 _ _ _ _ _ _ W _ m0 hc.2.2.1 hc.2.2.2 hc.2.1 (Lib.hid LK)
  rw [if_neg h22]
  by_cases h23 : x.o = 23 ∨ x.o = 24
  · rw [if_pos h23]
    have hk : kc x.o = 1 := by unfold kc; rw [if_pos (by omega)]
    obtain ⟨a0, b0, c0, m0⟩ := kid 0 (by omega)
    unfold vecW at hvec
    rw [if_neg h3, if_neg h22, if_pos h23] at hvec
    have hc : 1 ≤ wid L x 0 ∧ wid L x 0 ≤ x.w ∧ x.w ≤ 64 := by
      by_cases hc : 1 ≤ wid L x 0 ∧ wid L x 0 ≤ x.w ∧ x.w ≤ 64
      · exact hc
      · rw [if_neg hc] at hvec; exact absurd rfl hvec.1
    rw [c0] at hc
    obtain ⟨o, w, k0, k1, k2, n', l⟩ := x
    have a0' : vwN L N k0 = widAt L k0 := a0
    have b0' : vnN L a N k0 = vAt (valsN L a k) k0 := b0
    simp only [a0', b0'] at LK
    exact vec_extend w n' l b k0 k1 k2 _ _ _ _ _ _ W _ o h23 m0 hc.2.1 hc.2.2 (Lib.hid LK)
  rw [if_neg h23]
  by_cases h25 : x.o = 25
  · rw [if_pos h25]
    have hk : kc x.o = 3 := by rw [h25]; decide
    obtain ⟨a0, b0, c0, m0⟩ := kid 0 (by omega)
    obtain ⟨a1, b1, c1, m1⟩ := kid 1 (by omega)
    obtain ⟨a2, b2, c2, m2⟩ := kid 2 (by omega)
    unfold vecW at hvec
    rw [if_neg h3, if_neg h22, if_neg h23, if_pos h25] at hvec
    have hc : wid L x 0 = 1 ∧ wid L x 1 = wid L x 2 ∧ 1 ≤ wid L x 1 ∧ wid L x 1 ≤ 64 := by
      by_cases hc : wid L x 0 = 1 ∧ wid L x 1 = wid L x 2 ∧ 1 ≤ wid L x 1 ∧ wid L x 1 ≤ 64
      · exact hc
      · rw [if_neg hc] at hvec; exact absurd rfl hvec.1
    rw [if_pos hc] at hvec
    rw [c0, c1, c2] at hc
    rw [c1] at hvec
    obtain ⟨o, w, k0, k1, k2, n', l⟩ := x
    have a0' : vwN L N k0 = 1 := a0.trans hc.1
    have a1' : vwN L N k1 = w := a1.trans hvec.2
    have a2' : vwN L N k2 = w := (a2.trans hc.2.1.symm).trans hvec.2
    have b0' : vnN L a N k0 = vAt (valsN L a k) k0 := b0
    have b1' : vnN L a N k1 = vAt (valsN L a k) k1 := b1
    have b2' : vnN L a N k2 = vAt (valsN L a k) k2 := b2
    have m0' : mayB 1 (vAt (valsN L a k) k0) = true := by have h := m0; rw [hc.1] at h; exact h
    have m1' : mayB w (vAt (valsN L a k) k1) = true := by have h := m1; rw [hvec.2] at h; exact h
    have m2' : mayB w (vAt (valsN L a k) k2) = true := by have h := m2; rw [← hc.2.1, hvec.2] at h; exact h
    simp only at h25
    subst h25
    simp only [a0', a1', a2', b0', b1', b2'] at LK
    exact vec_ite w n' l b k0 k1 k2 _ _ _ _ _ _ W _ _ (Lib.hid (fun W => ite_ok _ _ _ _ m0' m1' m2' W)) (Lib.hid LK)
  · rw [if_neg h25]
    unfold vecW at hvec
    rw [if_neg h3, if_neg h22, if_neg h23, if_neg h25] at hvec
    have hc : 1 ≤ wid L x 0 ∧ wid L x 0 ≤ 64 ∧ 1 ≤ wid L x 1 ∧ wid L x 1 ≤ 64 := by
      by_cases hc : 1 ≤ wid L x 0 ∧ wid L x 0 ≤ 64 ∧ 1 ≤ wid L x 1 ∧ wid L x 1 ≤ 64
      · exact hc
      · rw [if_neg hc] at hvec; exact absurd rfl hvec.1
    rw [if_pos hc] at hvec
    have ho := widthB_op hvec.1
    have hk : kc x.o = 2 := by unfold kc; rw [if_neg (by omega), if_pos (by omega)]
    obtain ⟨a0, b0, c0, m0⟩ := kid 0 (by omega)
    obtain ⟨a1, b1, c1, m1⟩ := kid 1 (by omega)
    rw [c0, c1] at hvec
    obtain ⟨o, w, k0, k1, k2, n', l⟩ := x
    have a0' : vwN L N k0 = widAt L k0 := a0
    have a1' : vwN L N k1 = widAt L k1 := a1
    have b0' : vnN L a N k0 = vAt (valsN L a k) k0 := b0
    have b1' : vnN L a N k1 = vAt (valsN L a k) k1 := b1
    simp only [a0', a1', b0', b1'] at LK
    have h := vec_binary w n' l b k0 k1 k2 _ _ _ _ _ _ W (.slice al a.length ac) o ho m0 m1 hvec.1 (Lib.hid LK)
    have hw2 : widthB o (widAt L k0) (widAt L k1) = w := hvec.2
    have h' : Calls Try.prog 22 #[.agg #[.int .u8 ((o : Nat) : Int), .int .u8 ((w : Nat) : Int), .int .i64 k0, .int .i64 k1, .int .i64 k2, .int .u64 ((n' : Nat) : Int), .int .u8 ((l : Nat) : Int)], .map (some b), .slice al a.length ac] W fun e W' => e = .returned (.tuple #[.agg #[.int .u8 ((widthB o (widAt L k0) (widAt L k1) : Nat) : Int), .int .u64 ((low (widthB o (widAt L k0) (widAt L k1)) (numB o (widAt L k0) (widAt L k1) (vAt (valsN L a k) k0) (vAt (valsN L a k) k1)) : Nat) : Int)], .int .i64 0]) ∧ Below W.heap.size W W' := h
    rw [hw2] at h'
    exact h'
end Tm
end Go.Proofs.Ytjhghfndhpaapaa
