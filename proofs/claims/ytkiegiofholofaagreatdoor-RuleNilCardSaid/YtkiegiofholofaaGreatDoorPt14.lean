/-
The masks of a node, out of the map of those that are worked out: a fact on one call.
What stands while the nodes are worked out, as data in memory.
-/
import Derived.Test.YtkiegiofholofaaGreatDoorPt12
import Derived.Test.YtkiegiofholofaaGreatDoorKnSureX
namespace Go.Proofs.YtkiegiofholofaaGreatDoor
open Go.RowKit Go.Maps Bv Tm
namespace Kn
set_option maxHeartbeats 1000000
set_option maxRecDepth 100000

theorem sure_any {B : Nat} {W : World} {L : List Nd} {N : List Nat} {b k p m : Nat} {sv : Value} {x : Nd} (S : StoreAt B W p m sv L) (hM : MayL L) (hx : L[k]? = some x) (hm : MapAt W L b N) (hN : ∀ j ∈ N, j < L.length) (hk : ∀ j, j < ka x.o → (x.kid j).toNat ∈ N) :
    Calls Tryz.prog 123 #[.pointer (some ⟨p, 0, none⟩), x.val, .map (some b)] W fun e W' => e = .returned (.agg #[.int .u8 ((x.w : Nat) : Int), .int .u64 (((kn L k).1 : Nat) : Int), .int .u64 (((kn L k).2 : Nat) : Int)]) ∧ Below W.heap.size W W' := by
  have g := S.good
  have hmem := List.mem_of_getElem? hx
  have hok := g.ok x hmem
  have hop := mayN_op (hM k x hx)
  have hw := g.w x hmem
  have hw64 := pow_le64 hw.2
  have hkn := kn_is hx
  have HL : Hid (LookK W b x.k0 x.k1 x.k2 (lkW L N x.k0) (lkB L N x.k0).1 (lkB L N x.k0).2 (lkW L N x.k1) (lkB L N x.k1).1 (lkB L N x.k1).2 (lkW L N x.k2) (lkB L N x.k2).1 (lkB L N x.k2).2) :=
    Lib.hid ⟨hm.lt, fun w' e => ⟨(hm.same e).look hok.k0, (hm.same e).look hok.k1, (hm.same e).look hok.k2⟩⟩
  have lt : ∀ q, (lkB L N q).1 < 18446744073709551616 ∧ (lkB L N q).2 < 18446744073709551616 := by
    intro q
    unfold lkB
    split
    · rename_i hc
      exact kn_lt64 g hM (hN _ hc.2)
    · exact ⟨by decide, by decide⟩
  have asked : ∀ j, j < ka x.o → lkW L N (x.kid j) = widAt L (x.kid j) ∧ lkB L N (x.kid j) = kbAt (kvals L k) (x.kid j) ∧ (kbAt (kvals L k) (x.kid j)).1 < 2 ^ widAt L (x.kid j) ∧ (kbAt (kvals L k) (x.kid j)).2 < 2 ^ widAt L (x.kid j) := by
    intro j hj
    obtain ⟨y, hy, _, h0, hyw, hv⟩ := kid_in hM hx (Nat.lt_of_lt_of_le hj (ka_le _))
    have hl := kn_lt hM _ y hy
    rw [hv, hyw]
    exact ⟨(lkW_in h0 (hk j hj)).trans hyw, lkB_in h0 (hk j hj), hl.1, hl.2⟩
  have wun := wd_un hM hx
  have wbin := wd_bin hM hx
  have wcmp := wd_cmp hM hx
  have wwide := wd_wide hM hx
  have wite := wd_ite hM hx
  have kid1 : 1 < kc x.o → ∃ y : Nd, L[x.k1.toNat]? = some y ∧ ∀ v, Below W.heap.size W v → Calls Tryz.prog 11 #[.pointer (some ⟨p, 0, none⟩), .int .i64 x.k1] v fun e v' => e = .returned (.tuple #[y.val, .int .i64 0]) ∧ Below v.heap.size v v' := by
    intro h
    obtain ⟨y, hy, _, h0, _, _⟩ := kid_in hM hx h
    refine ⟨y, hy, fun v hv => ?_⟩
    have e : x.k1 = ((x.k1.toNat : Nat) : Int) := by have : x.kid 1 = x.k1 := rfl; omega
    rw [e]
    exact node_yes (S.call hv) hy
  obtain ⟨o, w, k0, k1, k2, n, l⟩ := x
  unfold Nd.val
  unfold oneK at hkn
  simp only at *
  rw [hkn]
  clear hkn hk hN hm
  have hcases : o = 1 ∨ o = 3 ∨ o = 5 ∨ o = 6 ∨ o = 7 ∨ o = 8 ∨ o = 9 ∨ o = 10 ∨ o = 15 ∨ o = 16 ∨ o = 17 ∨ o = 18 ∨ o = 21 ∨ o = 22 ∨ o = 23 ∨ o = 24 ∨ o = 25 ∨ (o = 2 ∨ o = 4 ∨ (11 ≤ o ∧ o ≤ 14) ∨ o = 19 ∨ o = 20) := by omega
  rcases hcases with rfl | rfl | rfl | rfl | rfl | rfl | rfl | rfl | rfl | rfl | rfl | rfl | rfl | rfl | rfl | rfl | rfl | hn
  · have R := sure_const w n l b k0 k1 k2 (lkW L N k0) (lkB L N k0).1 (lkB L N k0).2 (lkW L N k1) (lkB L N k1).1 (lkB L N k1).2 (lkW L N k2) (lkB L N k2).1 (lkB L N k2).2 (.pointer (some ⟨p, 0, none⟩)) W hw.1 hw.2 hok.n HL
    exact R
  · have a0 := asked 0 (by decide)
    have f0 : Nd.kid ⟨3, w, k0, k1, k2, n, l⟩ 0 = k0 := rfl
    rw [f0] at a0
    have R := sure_not w n l b k0 k1 k2 (lkW L N k0) (lkB L N k0).1 (lkB L N k0).2 (lkW L N k1) (lkB L N k1).1 (lkB L N k1).2 (lkW L N k2) (lkB L N k2).1 (lkB L N k2).2 (.pointer (some ⟨p, 0, none⟩)) W hw.1 hw.2 (lt k0).1 (lt k0).2 HL
    try rw [a0.1] at R
    try rw [a0.2.1] at R
    exact R
  · have a0 := asked 0 (by decide)
    have f0 : Nd.kid ⟨5, w, k0, k1, k2, n, l⟩ 0 = k0 := rfl
    rw [f0] at a0
    have a1 := asked 1 (by decide)
    have f1 : Nd.kid ⟨5, w, k0, k1, k2, n, l⟩ 1 = k1 := rfl
    rw [f1] at a1
    have R := sure_and w n l b k0 k1 k2 (lkW L N k0) (lkB L N k0).1 (lkB L N k0).2 (lkW L N k1) (lkB L N k1).1 (lkB L N k1).2 (lkW L N k2) (lkB L N k2).1 (lkB L N k2).2 (.pointer (some ⟨p, 0, none⟩)) W hw.1 hw.2 (lt k0).1 (lt k0).2 (lt k1).1 (lt k1).2 HL
    try rw [a0.1] at R
    try rw [a0.2.1] at R
    try rw [a1.1] at R
    try rw [a1.2.1] at R
    exact R
  · have a0 := asked 0 (by decide)
    have f0 : Nd.kid ⟨6, w, k0, k1, k2, n, l⟩ 0 = k0 := rfl
    rw [f0] at a0
    have a1 := asked 1 (by decide)
    have f1 : Nd.kid ⟨6, w, k0, k1, k2, n, l⟩ 1 = k1 := rfl
    rw [f1] at a1
    have R := sure_or w n l b k0 k1 k2 (lkW L N k0) (lkB L N k0).1 (lkB L N k0).2 (lkW L N k1) (lkB L N k1).1 (lkB L N k1).2 (lkW L N k2) (lkB L N k2).1 (lkB L N k2).2 (.pointer (some ⟨p, 0, none⟩)) W hw.1 hw.2 (lt k0).1 (lt k0).2 (lt k1).1 (lt k1).2 HL
    try rw [a0.1] at R
    try rw [a0.2.1] at R
    try rw [a1.1] at R
    try rw [a1.2.1] at R
    exact R
  · have a0 := asked 0 (by decide)
    have f0 : Nd.kid ⟨7, w, k0, k1, k2, n, l⟩ 0 = k0 := rfl
    rw [f0] at a0
    have a1 := asked 1 (by decide)
    have f1 : Nd.kid ⟨7, w, k0, k1, k2, n, l⟩ 1 = k1 := rfl
    rw [f1] at a1
    have R := sure_xor w n l b k0 k1 k2 (lkW L N k0) (lkB L N k0).1 (lkB L N k0).2 (lkW L N k1) (lkB L N k1).1 (lkB L N k1).2 (lkW L N k2) (lkB L N k2).1 (lkB L N k2).2 (.pointer (some ⟨p, 0, none⟩)) W hw.1 hw.2 (lt k0).1 (lt k0).2 (lt k1).1 (lt k1).2 HL
    try rw [a0.1] at R
    try rw [a0.2.1] at R
    try rw [a1.1] at R
    try rw [a1.2.1] at R
    exact R
  · have a0 := asked 0 (by decide)
    have f0 : Nd.kid ⟨8, w, k0, k1, k2, n, l⟩ 0 = k0 := rfl
    rw [f0] at a0
    have a1 := asked 1 (by decide)
    have f1 : Nd.kid ⟨8, w, k0, k1, k2, n, l⟩ 1 = k1 := rfl
    rw [f1] at a1
    have R := sure_add w n l b k0 k1 k2 (lkW L N k0) (lkB L N k0).1 (lkB L N k0).2 (lkW L N k1) (lkB L N k1).1 (lkB L N k1).2 (lkW L N k2) (lkB L N k2).1 (lkB L N k2).2 (.pointer (some ⟨p, 0, none⟩)) W hw.1 hw.2 (lt k0).1 (lt k1).1 HL
    try rw [a0.1] at R
    try rw [a0.2.1] at R
    try rw [a1.1] at R
    try rw [a1.2.1] at R
    exact R
  · have a0 := asked 0 (by decide)
    have f0 : Nd.kid ⟨9, w, k0, k1, k2, n, l⟩ 0 = k0 := rfl
    rw [f0] at a0
    have a1 := asked 1 (by decide)
    have f1 : Nd.kid ⟨9, w, k0, k1, k2, n, l⟩ 1 = k1 := rfl
    rw [f1] at a1
    have R := sure_sub w n l b k0 k1 k2 (lkW L N k0) (lkB L N k0).1 (lkB L N k0).2 (lkW L N k1) (lkB L N k1).1 (lkB L N k1).2 (lkW L N k2) (lkB L N k2).1 (lkB L N k2).2 (.pointer (some ⟨p, 0, none⟩)) W hw.1 hw.2 (lt k0).1 (lt k1).1 HL
    try rw [a0.1] at R
    try rw [a0.2.1] at R
    try rw [a1.1] at R
    try rw [a1.2.1] at R
    exact R
  · have a0 := asked 0 (by decide)
    have f0 : Nd.kid ⟨10, w, k0, k1, k2, n, l⟩ 0 = k0 := rfl
    rw [f0] at a0
    have a1 := asked 1 (by decide)
    have f1 : Nd.kid ⟨10, w, k0, k1, k2, n, l⟩ 1 = k1 := rfl
    rw [f1] at a1
    have R := sure_mul w n l b k0 k1 k2 (lkW L N k0) (lkB L N k0).1 (lkB L N k0).2 (lkW L N k1) (lkB L N k1).1 (lkB L N k1).2 (lkW L N k2) (lkB L N k2).1 (lkB L N k2).2 (.pointer (some ⟨p, 0, none⟩)) W hw.1 hw.2 (lt k0).1 (lt k1).1 HL
    try rw [a0.1] at R
    try rw [a0.2.1] at R
    try rw [a1.1] at R
    try rw [a1.2.1] at R
    exact R
  · have a0 := asked 0 (by decide)
    have f0 : Nd.kid ⟨15, w, k0, k1, k2, n, l⟩ 0 = k0 := rfl
    rw [f0] at a0
    have ww := (wbin (by omega)).1
    obtain ⟨y, hy, hnode⟩ := kid1 (by decide)
    obtain ⟨yo, yw, y0, y1, y2, yn, yl⟩ := y
    by_cases hy1 : yo = 1
    · subst hy1
      have hf : farOf L k1 = some yn := by unfold farOf; rw [hy]; rfl
      have R := sure_shl w n l b k0 k1 k2 (lkW L N k0) (lkB L N k0).1 (lkB L N k0).2 (lkW L N k1) (lkB L N k1).1 (lkB L N k1).2 (lkW L N k2) (lkB L N k2).1 (lkB L N k2).2 (.pointer (some ⟨p, 0, none⟩)) W (by rw [a0.1, ww]; exact hw.1) (by rw [a0.1, ww]; exact hw.2) (lt k0).1 (lt k0).2 _ _ _ _ _ yn (Lib.hid hnode) HL
      rw [a0.1, a0.2.1, ww] at R
      rw [hf, ww]
      exact R
    · have hf : farOf L k1 = none := by unfold farOf; rw [hy]; exact if_neg hy1
      have R := sure_shl0 w n l b k0 k1 k2 (lkW L N k0) (lkB L N k0).1 (lkB L N k0).2 (lkW L N k1) (lkB L N k1).1 (lkB L N k1).2 (lkW L N k2) (lkB L N k2).1 (lkB L N k2).2 (.pointer (some ⟨p, 0, none⟩)) W ((yo : Nat) : Int) _ _ _ _ _ yn (Lib.hid hnode) (by omega) HL
      rw [hf]
      exact R
  · have a0 := asked 0 (by decide)
    have f0 : Nd.kid ⟨16, w, k0, k1, k2, n, l⟩ 0 = k0 := rfl
    rw [f0] at a0
    have ww := (wbin (by omega)).1
    obtain ⟨y, hy, hnode⟩ := kid1 (by decide)
    obtain ⟨yo, yw, y0, y1, y2, yn, yl⟩ := y
    by_cases hy1 : yo = 1
    · subst hy1
      have hf : farOf L k1 = some yn := by unfold farOf; rw [hy]; rfl
      have R := sure_lshr w n l b k0 k1 k2 (lkW L N k0) (lkB L N k0).1 (lkB L N k0).2 (lkW L N k1) (lkB L N k1).1 (lkB L N k1).2 (lkW L N k2) (lkB L N k2).1 (lkB L N k2).2 (.pointer (some ⟨p, 0, none⟩)) W (by rw [a0.1, ww]; exact hw.1) (by rw [a0.1, ww]; exact hw.2) (lt k0).1 (lt k0).2 _ _ _ _ _ yn (Lib.hid hnode) HL
      rw [a0.1, a0.2.1, ww] at R
      rw [hf, ww]
      exact R
    · have hf : farOf L k1 = none := by unfold farOf; rw [hy]; exact if_neg hy1
      have R := sure_lshr0 w n l b k0 k1 k2 (lkW L N k0) (lkB L N k0).1 (lkB L N k0).2 (lkW L N k1) (lkB L N k1).1 (lkB L N k1).2 (lkW L N k2) (lkB L N k2).1 (lkB L N k2).2 (.pointer (some ⟨p, 0, none⟩)) W ((yo : Nat) : Int) _ _ _ _ _ yn (Lib.hid hnode) (by omega) HL
      rw [hf]
      exact R
  · have a0 := asked 0 (by decide)
    have f0 : Nd.kid ⟨17, w, k0, k1, k2, n, l⟩ 0 = k0 := rfl
    rw [f0] at a0
    have ww := (wbin (by omega)).1
    obtain ⟨y, hy, hnode⟩ := kid1 (by decide)
    obtain ⟨yo, yw, y0, y1, y2, yn, yl⟩ := y
    by_cases hy1 : yo = 1
    · subst hy1
      have hf : farOf L k1 = some yn := by unfold farOf; rw [hy]; rfl
      have R := sure_ashr w n l b k0 k1 k2 (lkW L N k0) (lkB L N k0).1 (lkB L N k0).2 (lkW L N k1) (lkB L N k1).1 (lkB L N k1).2 (lkW L N k2) (lkB L N k2).1 (lkB L N k2).2 (.pointer (some ⟨p, 0, none⟩)) W (by rw [a0.1, ww]; exact hw.1) (by rw [a0.1, ww]; exact hw.2) (by rw [a0.1, a0.2.1]; exact a0.2.2.1) (by rw [a0.1, a0.2.1]; exact a0.2.2.2) _ _ _ _ _ yn (Lib.hid hnode) HL
      rw [a0.1, a0.2.1, ww] at R
      rw [hf, ww]
      exact R
    · have hf : farOf L k1 = none := by unfold farOf; rw [hy]; exact if_neg hy1
      have R := sure_ashr0 w n l b k0 k1 k2 (lkW L N k0) (lkB L N k0).1 (lkB L N k0).2 (lkW L N k1) (lkB L N k1).1 (lkB L N k1).2 (lkW L N k2) (lkB L N k2).1 (lkB L N k2).2 (.pointer (some ⟨p, 0, none⟩)) W ((yo : Nat) : Int) _ _ _ _ _ yn (Lib.hid hnode) (by omega) HL
      rw [hf]
      exact R
  · have a0 := asked 0 (by decide)
    have f0 : Nd.kid ⟨18, w, k0, k1, k2, n, l⟩ 0 = k0 := rfl
    rw [f0] at a0
    have a1 := asked 1 (by decide)
    have f1 : Nd.kid ⟨18, w, k0, k1, k2, n, l⟩ 1 = k1 := rfl
    rw [f1] at a1
    have ww := wcmp (by omega)
    obtain rfl := ww.1
    have R := sure_eq 1 n l b k0 k1 k2 (lkW L N k0) (lkB L N k0).1 (lkB L N k0).2 (lkW L N k1) (lkB L N k1).1 (lkB L N k1).2 (lkW L N k2) (lkB L N k2).1 (lkB L N k2).2 (.pointer (some ⟨p, 0, none⟩)) W (by rw [a0.1]; exact ww.2.2.1) (by rw [a0.1]; exact ww.2.2.2) (lt k0).1 (lt k0).2 (lt k1).1 (lt k1).2 _ _ rfl rfl HL
    rw [a0.1] at R
    have e : opK 18 1 n l (widAt L k0) (widAt L k1) (kbAt (kvals L k) k0) (kbAt (kvals L k) k1) (kbAt (kvals L k) k2) (farOf L k1) = eqK (widAt L k0) ((lkB L N k0).1, (lkB L N k0).2) ((lkB L N k1).1, (lkB L N k1).2) := by
      rw [a0.2.1, a1.2.1]
      unfold opK
      rw [if_neg (by decide), if_neg (by decide), if_neg (by decide), if_neg (by decide), if_neg (by decide), if_neg (by decide), if_neg (by decide), if_neg (by decide), if_neg (by decide), if_neg (by decide), if_neg (by decide), if_neg (by decide), if_neg (by decide), if_pos rfl]
    rw [e]
    generalize eqK (widAt L k0) ((lkB L N k0).1, (lkB L N k0).2) ((lkB L N k1).1, (lkB L N k1).2) = E at R ⊢
    exact R
  · have a0 := asked 0 (by decide)
    have f0 : Nd.kid ⟨21, w, k0, k1, k2, n, l⟩ 0 = k0 := rfl
    rw [f0] at a0
    have a1 := asked 1 (by decide)
    have f1 : Nd.kid ⟨21, w, k0, k1, k2, n, l⟩ 1 = k1 := rfl
    rw [f1] at a1
    have R := sure_concat w n l b k0 k1 k2 (lkW L N k0) (lkB L N k0).1 (lkB L N k0).2 (lkW L N k1) (lkB L N k1).1 (lkB L N k1).2 (lkW L N k2) (lkB L N k2).1 (lkB L N k2).2 (.pointer (some ⟨p, 0, none⟩)) W hw.1 hw.2 (lt k0).1 (lt k0).2 (lt k1).1 (lt k1).2 HL
    try rw [a0.1] at R
    try rw [a0.2.1] at R
    try rw [a1.1] at R
    try rw [a1.2.1] at R
    exact R
  · have a0 := asked 0 (by decide)
    have f0 : Nd.kid ⟨22, w, k0, k1, k2, n, l⟩ 0 = k0 := rfl
    rw [f0] at a0
    have R := sure_extract w n l b k0 k1 k2 (lkW L N k0) (lkB L N k0).1 (lkB L N k0).2 (lkW L N k1) (lkB L N k1).1 (lkB L N k1).2 (lkW L N k2) (lkB L N k2).1 (lkB L N k2).2 (.pointer (some ⟨p, 0, none⟩)) W hw.1 hw.2 (lt k0).1 (lt k0).2 HL
    try rw [a0.1] at R
    try rw [a0.2.1] at R
    exact R
  · have a0 := asked 0 (by decide)
    have f0 : Nd.kid ⟨23, w, k0, k1, k2, n, l⟩ 0 = k0 := rfl
    rw [f0] at a0
    have R := sure_zext w n l b k0 k1 k2 (lkW L N k0) (lkB L N k0).1 (lkB L N k0).2 (lkW L N k1) (lkB L N k1).1 (lkB L N k1).2 (lkW L N k2) (lkB L N k2).1 (lkB L N k2).2 (.pointer (some ⟨p, 0, none⟩)) W hw.1 hw.2 (by rw [a0.1]; exact (wwide (by omega)).1) (by rw [a0.1]; have := wwide (by omega); omega) (lt k0).1 (lt k0).2 HL
    try rw [a0.1] at R
    try rw [a0.2.1] at R
    exact R
  · have a0 := asked 0 (by decide)
    have f0 : Nd.kid ⟨24, w, k0, k1, k2, n, l⟩ 0 = k0 := rfl
    rw [f0] at a0
    have R := sure_sext w n l b k0 k1 k2 (lkW L N k0) (lkB L N k0).1 (lkB L N k0).2 (lkW L N k1) (lkB L N k1).1 (lkB L N k1).2 (lkW L N k2) (lkB L N k2).1 (lkB L N k2).2 (.pointer (some ⟨p, 0, none⟩)) W hw.1 hw.2 (by rw [a0.1]; exact (wwide (by omega)).1) (by rw [a0.1]; have := wwide (by omega); omega) (by rw [a0.1, a0.2.1]; exact a0.2.2.1) (by rw [a0.1, a0.2.1]; exact a0.2.2.2) HL
    try rw [a0.1] at R
    try rw [a0.2.1] at R
    exact R
  · have a0 := asked 0 (by decide)
    have f0 : Nd.kid ⟨25, w, k0, k1, k2, n, l⟩ 0 = k0 := rfl
    rw [f0] at a0
    have a1 := asked 1 (by decide)
    have f1 : Nd.kid ⟨25, w, k0, k1, k2, n, l⟩ 1 = k1 := rfl
    rw [f1] at a1
    have a2 := asked 2 (by decide)
    have f2 : Nd.kid ⟨25, w, k0, k1, k2, n, l⟩ 2 = k2 := rfl
    rw [f2] at a2
    have ww := wite rfl
    have R := sure_ite w n l b k0 k1 k2 (lkW L N k0) (lkB L N k0).1 (lkB L N k0).2 (lkW L N k1) (lkB L N k1).1 (lkB L N k1).2 (lkW L N k2) (lkB L N k2).1 (lkB L N k2).2 (.pointer (some ⟨p, 0, none⟩)) W (by rw [a1.1, ww.2.1]; exact hw.1) (by rw [a1.1, ww.2.1]; exact hw.2) (lt k1).1 (lt k1).2 (lt k2).1 (lt k2).2 w _ _ (by rw [a1.1, a2.1, ww.2.1, ww.2.2]; (repeat' split) <;> rfl) rfl rfl HL
    rw [a0.2.1, a1.1, a1.2.1, a2.2.1] at R
    exact R
  · have R := sure_none w n l b k0 k1 k2 (lkW L N k0) (lkB L N k0).1 (lkB L N k0).2 (lkW L N k1) (lkB L N k1).1 (lkB L N k1).2 (lkW L N k2) (lkB L N k2).1 (lkB L N k2).2 (.pointer (some ⟨p, 0, none⟩)) W o hn HL
    have e : opK o w n l (widAt L k0) (widAt L k1) (kbAt (kvals L k) k0) (kbAt (kvals L k) k1) (kbAt (kvals L k) k2) (farOf L k1) = (0, 0) := by
      unfold opK
      rw [if_neg (by omega), if_neg (by omega), if_neg (by omega), if_neg (by omega), if_neg (by omega), if_neg (by omega), if_neg (by omega), if_neg (by omega), if_neg (by omega), if_neg (by omega), if_neg (by omega), if_neg (by omega), if_neg (by omega), if_neg (by omega)]
    rw [e]
    exact R
end Kn
end Go.Proofs.YtkiegiofholofaaGreatDoor

namespace Go.Proofs.YtkiegiofholofaaGreatDoor
open Go.RowKit Go.Maps Bv Tm
namespace Kn
set_option maxHeartbeats 1000000
set_option maxRecDepth 100000

/-- The list of what is to do, the map of what is done, the answer's block A. -/
structure OfAt (W : World) (L : List Nd) (A bm : Nat) (tv : Value) (T N : List Nat) (w : World) : Prop where
  row : w.ownsRow W.heap.size 3 1 tv T.length (todoRow T)
  map : MapAt w L bm N
  mb : W.heap.size ≤ bm
  bel : Below W.heap.size W w
  a0 : w.cell? ⟨A, 0, none⟩ = some (.int .u64 0)
  a1 : w.cell? ⟨A, 1, none⟩ = some (.int .u64 0)
  fr : ∀ o, w.frozen? ⟨A, o, none⟩ = false
  al : A < w.heap.size
  ag : W.heap.size ≤ A
  ab : A ≠ bm
  rm : tv.ownBlock ≠ some bm
  ra : tv.ownBlock ≠ some A
section
variable {W w w' : World} {L : List Nd} {A bm t : Nat} {tv : Value} {T T0 N : List Nat}
theorem OfAt.kept {F : Nat → Prop} (h : OfAt W L A bm tv T N w) (k : Kept F w w') (fa : ¬ F A) (fm : ¬ F bm) (ft : ∀ g, tv.ownBlock = some g → ¬ F g) (fw : ∀ i, i < W.heap.size → ¬ F i) : OfAt W L A bm tv T N w' :=
  ⟨row_kept h.row k ft, h.map.same (k.block bm h.map.lt fm), h.mb, h.bel.trans (k.below (fun i hi c => fw i hi c) h.bel.size), (k.cell (x := ⟨A, 0, none⟩) h.al fa).trans h.a0, (k.cell (x := ⟨A, 1, none⟩) h.al fa).trans h.a1,
    fun o => (k.frozen (x := ⟨A, o, none⟩) h.al fa).trans (h.fr o), Nat.lt_of_lt_of_le h.al k.size, h.ag, h.ab, h.rm, h.ra⟩
theorem OfAt.call (h : OfAt W L A bm tv T N w) (k : Below w.heap.size w w') : OfAt W L A bm tv T N w' :=
  h.kept (Kept.ofBelow k (fun _ => False)) (fun x => x) (fun x => x) (fun _ _ x => x) (fun _ _ x => x)
/-- The last of what is to do. -/
theorem OfAt.last (h : OfAt W L A bm tv (T0 ++ [t]) N w) : ∃ g c, tv = .slice (some ⟨g, 0, none⟩) (T0.length + 1) c ∧ T0.length + 1 ≤ c ∧ g < w.heap.size ∧ w.cell? ⟨g, T0.length, none⟩ = some (.int .i64 ((t : Nat) : Int)) ∧ g ≠ bm ∧ g ≠ A := by
  have hr := h.row
  have hm := h.rm
  have ha := h.ra
  rcases h.row with ⟨_, ⟨h1, h2⟩ | ⟨g, cap, cur, hv, hb, hh, hc, _⟩⟩
  · simp at h2
  · subst hv
    refine ⟨g, cap, by simp, by simpa using hc, (Array.getElem?_eq_some_iff.1 hh).1, ?_, fun e => hm (by rw [e]; rfl), fun e => ha (by rw [e]; rfl)⟩
    have := hr.cells (g := g) rfl T0.length (.int .i64 ((t : Nat) : Int)) (by simp [todoRow])
    have e : (⟨g, 0, none⟩ : Addr).add T0.length = ⟨g, T0.length, none⟩ := by
      unfold Addr.add
      split <;> simp_all
    rw [e] at this
    exact this
/-- The last of it is taken off. -/
theorem OfAt.drop {g c : Nat} (h : OfAt W L A bm (.slice (some ⟨g, 0, none⟩) (T0.length + 1) c) (T0 ++ [t]) N w) : OfAt W L A bm (.slice (some ⟨g, 0, none⟩) T0.length c) T0 N w := by
  refine ⟨?_, h.map, h.mb, h.bel, h.a0, h.a1, h.fr, h.al, h.ag, h.ab, h.rm, h.ra⟩
  rcases h.row with ⟨_, ⟨h1, h2⟩ | ⟨g', cap, cur, hv, hb, hh, hc, hx, hs, ht⟩⟩
  · simp at h2
  · simp only [Value.slice.injEq, Option.some.injEq, Addr.mk.injEq] at hv
    obtain ⟨⟨e1, _⟩, _, e2⟩ := hv
    subst e1
    subst e2
    refine ⟨by simp [todoRow], .inr ⟨g, c, cur, rfl, hb, hh, by simp at hc; omega, hx, hs, ?_⟩⟩
    have e : todoRow (T0 ++ [t]) = todoRow T0 ++ [.int .i64 ((t : Nat) : Int)] := by simp [todoRow]
    rw [e] at ht
    have e3 : (cur.toList.take (T0.length * 1)) = (cur.toList.take ((T0 ++ [t]).length * 1)).take T0.length := by
      rw [List.take_take]
      congr 1
      simp
    rw [e3, ht]
    have : (todoRow T0).length = T0.length := by simp [todoRow]
    rw [← this, List.take_left']
    rfl
/-- More comes on top. -/
theorem OfAt.more {w2 : World} {M : List Nat} {v' : Value} (h : OfAt W L A bm tv T N w) (hg : w.grownBy w2 tv.ownBlock) (hrow : w2.ownsRow W.heap.size 3 1 v' (T.length + M.length) (todoRow T ++ todoRow M)) (hloc : v'.ownBlock = tv.ownBlock ∨ v'.ownBlock = some w.heap.size) : OfAt W L A bm v' (T ++ M) N w2 := by
  have tlt : ∀ g, tv.ownBlock = some g → W.heap.size ≤ g := fun g e => (h.row.lt g e).1
  have al := h.al
  have ml := h.map.lt
  have K : Kept (fun i => tv.ownBlock = some i) w w2 := kept_grown hg (fun i e => e)
  refine ⟨?_, h.map.same (K.block bm ml (fun c => h.rm c)), h.mb, h.bel.trans (K.below (fun i hi c => by have := tlt i c; omega) h.bel.size), (K.cell (x := ⟨A, 0, none⟩) al h.ra).trans h.a0, (K.cell (x := ⟨A, 1, none⟩) al h.ra).trans h.a1,
    fun o => (K.frozen (x := ⟨A, o, none⟩) al h.ra).trans (h.fr o), Nat.lt_of_lt_of_le al K.size, h.ag, h.ab, ?_, ?_⟩
  · have e : todoRow (T ++ M) = todoRow T ++ todoRow M := by simp [todoRow]
    rw [e, List.length_append]
    exact hrow
  · rcases hloc with e | e
    · rw [e]; exact h.rm
    · rw [e]; intro c; simp at c; omega
  · rcases hloc with e | e
    · rw [e]; exact h.ra
    · rw [e]; intro c; simp at c; omega
/-- One node more is done. -/
theorem OfAt.put (h : OfAt W L A bm tv T N w) (ht : t < 200001) (hn : N.length ≤ 200000) {key val : Value} (hkey : key = .int .i64 ((t : Nat) : Int)) (hval : val = .agg #[.int .u8 ((widAt L ((t : Nat) : Int) : Nat) : Int), .int .u64 (((kn L t).1 : Nat) : Int), .int .u64 (((kn L t).2 : Nat) : Int)]) :
    ∃ w', (Instr.mapUpdate 158 (.map (some bm)) key val).run Tryz.prog w = .ok () w' ∧ OfAt W L A bm tv T (addK N t) w' ∧ Kept (fun i => i = bm) w w' := by
  subst hkey
  subst hval
  obtain ⟨D, hO, hT⟩ := h.map
  have hk6 : I64 ((t : Nat) : Int) := by unfold I64; omega
  obtain ⟨w', hrun, ho, ht1⟩ := hO.store law_int Tryz.underlying158 (by unfold maxLen; omega) (key_int hk6) (kbElem_mk _ _ _)
  have hT' := hT.add hk6
  have hg1 := ht1.grown
  have K := kept_grown hg1 (F := fun i => i = bm) (fun i e => by simpa using e.symm)
  have mb := h.mb
  have al := h.al
  refine ⟨w', hrun, ⟨row_kept h.row K (fun g e c => h.rm (by rw [e, c])), ⟨_, owns_fit ho (by have := hT'.size; unfold kbLit at this; omega), hT'⟩, mb, h.bel.trans (K.below (fun i hi c => by omega) h.bel.size), (K.cell (x := ⟨A, 0, none⟩) al h.ab).trans h.a0, (K.cell (x := ⟨A, 1, none⟩) al h.ab).trans h.a1,
    fun o => (K.frozen (x := ⟨A, o, none⟩) al h.ab).trans (h.fr o), Nat.lt_of_lt_of_le al K.size, h.ag, h.ab, h.rm, h.ra⟩, K⟩
end

/-- What the last statement of a round reads. -/
structure OfS (g n0 t bx : Nat) (x0 x1 x2 x3 x4 x5 x6 : Value) (w : World) : Prop where
  cell : w.cell? ⟨g, n0, none⟩ = some (.int .i64 ((t : Nat) : Int))
  lt : g < w.heap.size
  box : At7 w bx x0 x1 x2 x3 x4 x5 x6
theorem OfS.call {g n0 t bx : Nat} {x0 x1 x2 x3 x4 x5 x6 : Value} {w w' : World} (h : OfS g n0 t bx x0 x1 x2 x3 x4 x5 x6 w) (k : Below w.heap.size w w') : OfS g n0 t bx x0 x1 x2 x3 x4 x5 x6 w' :=
  ⟨(k.cell (p := ⟨g, n0, none⟩) h.lt).trans h.cell, Nat.lt_of_lt_of_le h.lt k.size, h.box.keep k⟩
theorem OfS.kept {g n0 t bx : Nat} {x0 x1 x2 x3 x4 x5 x6 : Value} {w w' : World} {F : Nat → Prop} (h : OfS g n0 t bx x0 x1 x2 x3 x4 x5 x6 w) (k : Kept F w w') (hg : ¬ F g) (hb : ¬ F bx) : OfS g n0 t bx x0 x1 x2 x3 x4 x5 x6 w' :=
  ⟨(k.cell (x := ⟨g, n0, none⟩) h.lt hg).trans h.cell, Nat.lt_of_lt_of_le h.lt k.size, h.box.move (fun o => k.cell (x := ⟨bx, o, none⟩) h.box.lt hb)⟩
theorem MapAt.len {w : World} {L : List Nd} {b : Nat} {N : List Nat} (h : MapAt w L b N) (hn : ∀ j ∈ N, j < L.length) : N.length ≤ L.length := by
  obtain ⟨D, _, hT⟩ := h
  exact nodup_le _ _ hT.nd hn
theorem field_1 (a b c : Int) (w : World) : (Instr.field 161 (.agg #[.int .u8 a, .int .u64 b, .int .u64 c]) 1).run Tryz.prog w = .ok (.int .u64 b) w := by kernel_rfl
theorem field_2 (a b c : Int) (w : World) : (Instr.field 161 (.agg #[.int .u8 a, .int .u64 b, .int .u64 c]) 2).run Tryz.prog w = .ok (.int .u64 c) w := by kernel_rfl
theorem heap_new (w : World) (o : Obj) : (w.alloc o).heap[w.heap.size]? = some o := by
  show (w.heap.push o)[w.heap.size]? = some o
  exact Array.getElem?_push_size
theorem row_new (w : World) (k : Int) (base : Nat) (hb : base ≤ w.heap.size) : (w.alloc (.cells #[.int .i64 k] 3)).ownsRow base 3 1 (.slice (some ⟨w.heap.size, 0, none⟩) 1 1) 1 [.int .i64 k] :=
  ⟨rfl, .inr ⟨w.heap.size, 1, #[.int .i64 k], rfl, hb, heap_new _ _, Nat.le_refl _, by unfold maxLen; omega, rfl, rfl⟩⟩
/-- At each round's head. -/
def OfRel (W : World) (L : List Nd) (A bm id gk : Nat) (tv : Value) (w : World) : Prop := ∃ (F : List Fr) (N : List Nat), OfAt W L A bm tv (F.map Prod.fst) N w ∧ Inv L id F N ∧ gk = mu F ∧ N.length ≤ 200000
end Kn
end Go.Proofs.YtkiegiofholofaaGreatDoor
