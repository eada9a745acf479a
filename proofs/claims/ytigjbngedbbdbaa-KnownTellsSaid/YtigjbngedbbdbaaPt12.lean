/-
The masks of a node, out of the map of those that are worked out: a fact on one call.
The masks of a node, where what is asked for stands in the map: a fact on one call.
What stands while the nodes are worked out, as data in memory.
The library's sort of ints, as this program has it: what it returns, by the contract that is proved once for every program.
The kid that is asked for first and is still to be worked out, as a fact on one call.
-/
import Derived.Test.YtigjbngedbbdbaaPt11
import Derived.Test.YtigjbngedbbdbaaKnSureX
import Derived.Shelf.Sort.Plain
import Derived.Shelf.Slices.In.SortNone
import Derived.Test.YtigjbngedbbdbaaProg
import Derived.KernelRfl
import Derived.Deep.LoopGhost
namespace Go.Proofs.Ytigjbngedbbdbaa
open Go.RowKit Go.Maps Bv Tm
namespace Kn
set_option maxHeartbeats 1000000
set_option maxRecDepth 100000

theorem sure_any {B : Nat} {W : World} {L : List Nd} {N : List Nat} {b k p m : Nat} {sv : Value} {x : Nd} (S : StoreAt B W p m sv L) (hM : MayL L) (hx : L[k]? = some x) (hm : MapAt W L b N) (hN : ∀ j ∈ N, j < L.length) (hk : ∀ j, j < ka x.o → (x.kid j).toNat ∈ N) :
    Calls Try.prog 17 #[.pointer (some ⟨p, 0, none⟩), x.val, .map (some b)] W fun e W' => e = .returned (.agg #[.int .u8 ((x.w : Nat) : Int), .int .u64 (((kn L k).1 : Nat) : Int), .int .u64 (((kn L k).2 : Nat) : Int)]) ∧ Below W.heap.size W W' := by
  have g := S.good
  have hmem := List.mem_of_getElem? hx
  have hok := g.ok x hmem
  have hop := mayN_op (hM k x hx)
  have hw := g.w x hmem
  have hw64 := pow_le64 hw.2
  have hkn := kn_is hx
  have HL : Hid (LookK W b x.k0 x.k1 x.k2 (lkW L N x.k0) (lkB L N x.k0).1 (lkB L N x.k0).2 (lkW L N x.k1) (lkB L N x.k1).1 (lkB L N x.k1).2 (lkW L N x.k2) (lkB L N x.k2).1 (lkB L N x.k2).2) :=
    Lib.hid ⟨hm.lt, fun w' e => ⟨(hm.same e).look hok.k0, (hm.same e).look hok.k1, (hm.same e).look hok.k2⟩⟩
  have lt : ∀ q, (lkB L N q).1 < 18446744073709551616 ∧ (lkB L N q).2 < 18446744073709551616 := by
    intro q
    unfold lkB
    split
    · rename_i hc
      exact kn_lt64 g hM (hN _ hc.2)
    · exact ⟨by decide, by decide⟩
  have asked : ∀ j, j < ka x.o → lkW L N (x.kid j) = widAt L (x.kid j) ∧ lkB L N (x.kid j) = kbAt (kvals L k) (x.kid j) ∧ (kbAt (kvals L k) (x.kid j)).1 < 2 ^ widAt L (x.kid j) ∧ (kbAt (kvals L k) (x.kid j)).2 < 2 ^ widAt L (x.kid j) := by
    intro j hj
    obtain ⟨y, hy, _, h0, hyw, hv⟩ := kid_in hM hx (Nat.lt_of_lt_of_le hj (ka_le _))
    have hl := kn_lt hM _ y hy
    rw [hv, hyw]
    exact ⟨(lkW_in h0 (hk j hj)).trans hyw, lkB_in h0 (hk j hj), hl.1, hl.2⟩
  have wun := wd_un hM hx
  have wbin := wd_bin hM hx
  have wcmp := wd_cmp hM hx
  have wwide := wd_wide hM hx
  have wite := wd_ite hM hx
  have kid1 : 1 < kc x.o → ∃ y : Nd, L[x.k1.toNat]? = some y ∧ ∀ v, Below W.heap.size W v → Calls Try.prog 15 #[.pointer (some ⟨p, 0, none⟩), .int .i64 x.k1] v fun e v' => e = .returned (.tuple #[y.val, .int .i64 0]) ∧ Below v.heap.size v v' := by
    intro h
    obtain ⟨y, hy, _, h0, _, _⟩ := kid_in hM hx h
    refine ⟨y, hy, fun v hv => ?_⟩
    have e : x.k1 = ((x.k1.toNat : Nat) : Int) := by have : x.kid 1 = x.k1 := rfl; omega
    rw [e]
    exact node_yes (S.call hv) hy
  obtain ⟨o, w, k0, k1, k2, n, l⟩ := x
  unfold Nd.val
  unfold oneK at hkn
  simp only at *
  rw [hkn]
  clear hkn hk hN hm
  have hcases : o = 1 ∨ o = 3 ∨ o = 5 ∨ o = 6 ∨ o = 7 ∨ o = 8 ∨ o = 9 ∨ o = 10 ∨ o = 15 ∨ o = 16 ∨ o = 17 ∨ o = 18 ∨ o = 21 ∨ o = 22 ∨ o = 23 ∨ o = 24 ∨ o = 25 ∨ (o = 2 ∨ o = 4 ∨ (11 ≤ o ∧ o ≤ 14) ∨ o = 19 ∨ o = 20) := by omega
  rcases hcases with rfl | rfl | rfl | rfl | rfl | rfl | rfl | rfl | rfl | rfl | rfl | rfl | rfl | rfl | rfl | rfl | rfl | hn
  · have R := sure_const w n l b k0 k1 k2 (lkW L N k0) (lkB L N k0).1 (lkB L N k0).2 (lkW L N k1) (lkB L N k1).1 (lkB L N k1).2 (lkW L N k2) (lkB L N k2).1 (lkB L N k2).2 (.pointer (some ⟨p, 0, none⟩)) W hw.1 hw.2 hok.n HL
    exact R
  · have a0 := asked 0 (by decide)
    have f0 : Nd.kid ⟨3, w, k0, k1, k2, n, l⟩ 0 = k0 := rfl
    rw [f0] at a0
    have R := sure_not w n l b k0 k1 k2 (lkW L N k0) (lkB L N k0).1 (lkB L N k0).2 (lkW L N k1) (lkB L N k1).1 (lkB L N k1).2 (lkW L N k2) (lkB L N k2).1 (lkB L N k2).2 (.pointer (some ⟨p, 0, none⟩)) W hw.1 hw.2 (lt k0).1 (lt k0).2 HL
    try rw [a0.1] at R
    try rw [a0.2.1] at R
    exact R
  · have a0 := asked 0 (by decide)
    have f0 : Nd.kid ⟨5, w, k0, k1, k2, n, l⟩ 0 = k0 := rfl
    rw [f0] at a0
    have a1 := asked 1 (by decide)
    have f1 : Nd.kid ⟨5, w, k0, k1, k2, n, l⟩ 1 = k1 := rfl
    rw [f1] at a1
    have R := sure_and w n l b k0 k1 k2 (lkW L N k0) (lkB L N k0).1 (lkB L N k0).2 (lkW L N k1) (lkB L N k1).1 (lkB L N k1).2 (lkW L N k2) (lkB L N k2).1 (lkB L N k2).2 (.pointer (some ⟨p, 0, none⟩)) W hw.1 hw.2 (lt k0).1 (lt k0).2 (lt k1).1 (lt k1).2 HL
    try rw [a0.1] at R
    try rw [a0.2.1] at R
    try rw [a1.1] at R
    try rw [a1.2.1] at R
    exact R
  · have a0 := asked 0 (by decide)
    have f0 : Nd.kid ⟨6, w, k0, k1, k2, n, l⟩ 0 = k0 := rfl
    rw [f0] at a0
    have a1 := asked 1 (by decide)
    have f1 : Nd.kid ⟨6, w, k0, k1, k2, n, l⟩ 1 = k1 := rfl
    rw [f1] at a1
    have R := sure_or w n l b k0 k1 k2 (lkW L N k0) (lkB L N k0).1 (lkB L N k0).2 (lkW L N k1) (lkB L N k1).1 (lkB L N k1).2 (lkW L N k2) (lkB L N k2).1 (lkB L N k2).2 (.pointer (some ⟨p, 0, none⟩)) W hw.1 hw.2 (lt k0).1 (lt k0).2 (lt k1).1 (lt k1).2 HL
    try rw [a0.1] at R
    try rw [a0.2.1] at R
    try rw [a1.1] at R
    try rw [a1.2.1] at R
    exact R
  · have a0 := asked 0 (by decide)
    have f0 : Nd.kid ⟨7, w, k0, k1, k2, n, l⟩ 0 = k0 := rfl
    rw [f0] at a0
    have a1 := asked 1 (by decide)
    have f1 : Nd.kid ⟨7, w, k0, k1, k2, n, l⟩ 1 = k1 := rfl
    rw [f1] at a1
    have R := sure_xor w n l b k0 k1 k2 (lkW L N k0) (lkB L N k0).1 (lkB L N k0).2 (lkW L N k1) (lkB L N k1).1 (lkB L N k1).2 (lkW L N k2) (lkB L N k2).1 (lkB L N k2).2 (.pointer (some ⟨p, 0, none⟩)) W hw.1 hw.2 (lt k0).1 (lt k0).2 (lt k1).1 (lt k1).2 HL
    try rw [a0.1] at R
    try rw [a0.2.1] at R
    try rw [a1.1] at R
    try rw [a1.2.1] at R
    exact R
  · have a0 := asked 0 (by decide)
    have f0 : Nd.kid ⟨8, w, k0, k1, k2, n, l⟩ 0 = k0 := rfl
    rw [f0] at a0
    have a1 := asked 1 (by decide)
    have f1 : Nd.kid ⟨8, w, k0, k1, k2, n, l⟩ 1 = k1 := rfl
    rw [f1] at a1
    have R := sure_add w n l b k0 k1 k2 (lkW L N k0) (lkB L N k0).1 (lkB L N k0).2 (lkW L N k1) (lkB L N k1).1 (lkB L N k1).2 (lkW L N k2) (lkB L N k2).1 (lkB L N k2).2 (.pointer (some ⟨p, 0, none⟩)) W hw.1 hw.2 (lt k0).1 (lt k1).1 HL
    try rw [a0.1] at R
    try rw [a0.2.1] at R
    try rw [a1.1] at R
    try rw [a1.2.1] at R
    exact R
  · have a0 := asked 0 (by decide)
    have f0 : Nd.kid ⟨9, w, k0, k1, k2, n, l⟩ 0 = k0 := rfl
    rw [f0] at a0
    have a1 := asked 1 (by decide)
    have f1 : Nd.kid ⟨9, w, k0, k1, k2, n, l⟩ 1 = k1 := rfl
    rw [f1] at a1
    have R := sure_sub w n l b k0 k1 k2 (lkW L N k0) (lkB L N k0).1 (lkB L N k0).2 (lkW L N k1) (lkB L N k1).1 (lkB L N k1).2 (lkW L N k2) (lkB L N k2).1 (lkB L N k2).2 (.pointer (some ⟨p, 0, none⟩)) W hw.1 hw.2 (lt k0).1 (lt k1).1 HL
    try rw [a0.1] at R
    try rw [a0.2.1] at R
    try rw [a1.1] at R
    try rw [a1.2.1] at R
    exact R
  · have a0 := asked 0 (by decide)
    have f0 : Nd.kid ⟨10, w, k0, k1, k2, n, l⟩ 0 = k0 := rfl
    rw [f0] at a0
    have a1 := asked 1 (by decide)
    have f1 : Nd.kid ⟨10, w, k0, k1, k2, n, l⟩ 1 = k1 := rfl
    rw [f1] at a1
    have R := sure_mul w n l b k0 k1 k2 (lkW L N k0) (lkB L N k0).1 (lkB L N k0).2 (lkW L N k1) (lkB L N k1).1 (lkB L N k1).2 (lkW L N k2) (lkB L N k2).1 (lkB L N k2).2 (.pointer (some ⟨p, 0, none⟩)) W hw.1 hw.2 (lt k0).1 (lt k1).1 HL
    try rw [a0.1] at R
    try rw [a0.2.1] at R
    try rw [a1.1] at R
    try rw [a1.2.1] at R
    exact R
  · have a0 := asked 0 (by decide)
    have f0 : Nd.kid ⟨15, w, k0, k1, k2, n, l⟩ 0 = k0 := rfl
    rw [f0] at a0
    have ww := (wbin (by omega)).1
    obtain ⟨y, hy, hnode⟩ := kid1 (by decide)
    obtain ⟨yo, yw, y0, y1, y2, yn, yl⟩ := y
    by_cases hy1 : yo = 1
    · subst hy1
      have hf : farOf L k1 = some yn := by unfold farOf; rw [hy]; rfl
      have R := sure_shl w n l b k0 k1 k2 (lkW L N k0) (lkB L N k0).1 (lkB L N k0).2 (lkW L N k1) (lkB L N k1).1 (lkB L N k1).2 (lkW L N k2) (lkB L N k2).1 (lkB L N k2).2 (.pointer (some ⟨p, 0, none⟩)) W (by rw [a0.1, ww]; exact hw.1) (by rw [a0.1, ww]; exact hw.2) (lt k0).1 (lt k0).2 _ _ _ _ _ yn (Lib.hid hnode) HL
      rw [a0.1, a0.2.1, ww] at R
      rw [hf, ww]
      exact R
    · have hf : farOf L k1 = none := by unfold farOf; rw [hy]; exact if_neg hy1
      have R := sure_shl0 w n l b k0 k1 k2 (lkW L N k0) (lkB L N k0).1 (lkB L N k0).2 (lkW L N k1) (lkB L N k1).1 (lkB L N k1).2 (lkW L N k2) (lkB L N k2).1 (lkB L N k2).2 (.pointer (some ⟨p, 0, none⟩)) W ((yo : Nat) : Int) _ _ _ _ _ yn (Lib.hid hnode) (by omega) HL
      rw [hf]
      exact R
  · have a0 := asked 0 (by decide)
    have f0 : Nd.kid ⟨16, w, k0, k1, k2, n, l⟩ 0 = k0 := rfl
    rw [f0] at a0
    have ww := (wbin (by omega)).1
    obtain ⟨y, hy, hnode⟩ := kid1 (by decide)
    obtain ⟨yo, yw, y0, y1, y2, yn, yl⟩ := y
    by_cases hy1 : yo = 1
    · subst hy1
      have hf : farOf L k1 = some yn := by unfold farOf; rw [hy]; rfl
      have R := sure_lshr w n l b k0 k1 k2 (lkW L N k0) (lkB L N k0).1 (lkB L N k0).2 (lkW L N k1) (lkB L N k1).1 (lkB L N k1).2 (lkW L N k2) (lkB L N k2).1 (lkB L N k2).2 (.pointer (some ⟨p, 0, none⟩)) W (by rw [a0.1, ww]; exact hw.1) (by rw [a0.1, ww]; exact hw.2) (lt k0).1 (lt k0).2 _ _ _ _ _ yn (Lib.hid hnode) HL
      rw [a0.1, a0.2.1, ww] at R
      rw [hf, ww]
      exact R
    · have hf : farOf L k1 = none := by unfold farOf; rw [hy]; exact if_neg hy1
      have R := sure_lshr0 w n l b k0 k1 k2 (lkW L N k0) (lkB L N k0).1 (lkB L N k0).2 (lkW L N k1) (lkB L N k1).1 (lkB L N k1).2 (lkW L N k2) (lkB L N k2).1 (lkB L N k2).2 (.pointer (some ⟨p, 0, none⟩)) W ((yo : Nat) : Int) _ _ _ _ _ yn (Lib.hid hnode) (by omega) HL
      rw [hf]
      exact R
  · have a0 := asked 0 (by decide)
    have f0 : Nd.kid ⟨17, w, k0, k1, k2, n, l⟩ 0 = k0 := rfl
    rw [f0] at a0
    have ww := (wbin (by omega)).1
    obtain ⟨y, hy, hnode⟩ := kid1 (by decide)
    obtain ⟨yo, yw, y0, y1, y2, yn, yl⟩ := y
    by_cases hy1 : yo = 1
    · subst hy1
      have hf : farOf L k1 = some yn := by unfold farOf; rw [hy]; rfl
      have R := sure_ashr w n l b k0 k1 k2 (lkW L N k0) (lkB L N k0).1 (lkB L N k0).2 (lkW L N k1) (lkB L N k1).1 (lkB L N k1).2 (lkW L N k2) (lkB L N k2).1 (lkB L N k2).2 (.pointer (some ⟨p, 0, none⟩)) W (by rw [a0.1, ww]; exact hw.1) (by rw [a0.1, ww]; exact hw.2) (by rw [a0.1, a0.2.1]; exact a0.2.2.1) (by rw [a0.1, a0.2.1]; exact a0.2.2.2) _ _ _ _ _ yn (Lib.hid hnode) HL
      rw [a0.1, a0.2.1, ww] at R
      rw [hf, ww]
      exact R
    · have hf : farOf L k1 = none := by unfold farOf; rw [hy]; exact if_neg hy1
      have R := sure_ashr0 w n l b k0 k1 k2 (lkW L N k0) (lkB L N k0).1 (lkB L N k0).2 (lkW L N k1) (lkB L N k1).1 (lkB L N k1).2 (lkW L N k2) (lkB L N k2).1 (lkB L N k2).2 (.pointer (some ⟨p, 0, none⟩)) W ((yo : Nat) : Int) _ _ _ _ _ yn (Lib.hid hnode) (by omega) HL
      rw [hf]
      exact R
  · have a0 := asked 0 (by decide)
    have f0 : Nd.kid ⟨18, w, k0, k1, k2, n, l⟩ 0 = k0 := rfl
    rw [f0] at a0
    have a1 := asked 1 (by decide)
    have f1 : Nd.kid ⟨18, w, k0, k1, k2, n, l⟩ 1 = k1 := rfl
    rw [f1] at a1
    have ww := wcmp (by omega)
    obtain rfl := ww.1
    have R := sure_eq 1 n l b k0 k1 k2 (lkW L N k0) (lkB L N k0).1 (lkB L N k0).2 (lkW L N k1) (lkB L N k1).1 (lkB L N k1).2 (lkW L N k2) (lkB L N k2).1 (lkB L N k2).2 (.pointer (some ⟨p, 0, none⟩)) W (by rw [a0.1]; exact ww.2.2.1) (by rw [a0.1]; exact ww.2.2.2) (lt k0).1 (lt k0).2 (lt k1).1 (lt k1).2 _ _ rfl rfl HL
    rw [a0.1] at R
    have e : opK 18 1 n l (widAt L k0) (widAt L k1) (kbAt (kvals L k) k0) (kbAt (kvals L k) k1) (kbAt (kvals L k) k2) (farOf L k1) = eqK (widAt L k0) ((lkB L N k0).1, (lkB L N k0).2) ((lkB L N k1).1, (lkB L N k1).2) := by
      rw [a0.2.1, a1.2.1]
      unfold opK
      rw [if_neg (by decide), if_neg (by decide), if_neg (by decide), if_neg (by decide), if_neg (by decide), if_neg (by decide), if_neg (by decide), if_neg (by decide), if_neg (by decide), if_neg (by decide), if_neg (by decide), if_neg (by decide), if_neg (by decide), if_pos rfl]
    rw [e]
    generalize eqK (widAt L k0) ((lkB L N k0).1, (lkB L N k0).2) ((lkB L N k1).1, (lkB L N k1).2) = E at R ⊢
    exact R
  · have a0 := asked 0 (by decide)
    have f0 : Nd.kid ⟨21, w, k0, k1, k2, n, l⟩ 0 = k0 := rfl
    rw [f0] at a0
    have a1 := asked 1 (by decide)
    have f1 : Nd.kid ⟨21, w, k0, k1, k2, n, l⟩ 1 = k1 := rfl
    rw [f1] at a1
    have R := sure_concat w n l b k0 k1 k2 (lkW L N k0) (lkB L N k0).1 (lkB L N k0).2 (lkW L N k1) (lkB L N k1).1 (lkB L N k1).2 (lkW L N k2) (lkB L N k2).1 (lkB L N k2).2 (.pointer (some ⟨p, 0, none⟩)) W hw.1 hw.2 (lt k0).1 (lt k0).2 (lt k1).1 (lt k1).2 HL
    try rw [a0.1] at R
    try rw [a0.2.1] at R
    try rw [a1.1] at R
    try rw [a1.2.1] at R
    exact R
  · have a0 := asked 0 (by decide)
    have f0 : Nd.kid ⟨22, w, k0, k1, k2, n, l⟩ 0 = k0 := rfl
    rw [f0] at a0
    have R := sure_extract w n l b k0 k1 k2 (lkW L N k0) (lkB L N k0).1 (lkB L N k0).2 (lkW L N k1) (lkB L N k1).1 (lkB L N k1).2 (lkW L N k2) (lkB L N k2).1 (lkB L N k2).2 (.pointer (some ⟨p, 0, none⟩)) W hw.1 hw.2 (lt k0).1 (lt k0).2 HL
    try rw [a0.1] at R
    try rw [a0.2.1] at R
    exact R
  · have a0 := asked 0 (by decide)
    have f0 : Nd.kid ⟨23, w, k0, k1, k2, n, l⟩ 0 = k0 := rfl
    rw [f0] at a0
    have R := sure_zext w n l b k0 k1 k2 (lkW L N k0) (lkB L N k0).1 (lkB L N k0).2 (lkW L N k1) (lkB L N k1).1 (lkB L N k1).2 (lkW L N k2) (lkB L N k2).1 (lkB L N k2).2 (.pointer (some ⟨p, 0, none⟩)) W hw.1 hw.2 (by rw [a0.1]; exact (wwide (by omega)).1) (by rw [a0.1]; have := wwide (by omega); omega) (lt k0).1 (lt k0).2 HL
    try rw [a0.1] at R
    try rw [a0.2.1] at R
    exact R
  · have a0 := asked 0 (by decide)
    have f0 : Nd.kid ⟨24, w, k0, k1, k2, n, l⟩ 0 = k0 := rfl
    rw [f0] at a0
    have R := sure_sext w n l b k0 k1 k2 (lkW L N k0) (lkB L N k0).1 (lkB L N k0).2 (lkW L N k1) (lkB L N k1).1 (lkB L N k1).2 (lkW L N k2) (lkB L N k2).1 (lkB L N k2).2 (.pointer (some ⟨p, 0, none⟩)) W hw.1 hw.2 (by rw [a0.1]; exact (wwide (by omega)).1) (by rw [a0.1]; have := wwide (by omega); omega) (by rw [a0.1, a0.2.1]; exact a0.2.2.1) (by rw [a0.1, a0.2.1]; exact a0.2.2.2) HL
    try rw [a0.1] at R
    try rw [a0.2.1] at R
    exact R
  · have a0 := asked 0 (by decide)
    have f0 : Nd.kid ⟨25, w, k0, k1, k2, n, l⟩ 0 = k0 := rfl
    rw [f0] at a0
    have a1 := asked 1 (by decide)
    have f1 : Nd.kid ⟨25, w, k0, k1, k2, n, l⟩ 1 = k1 := rfl
    rw [f1] at a1
    have a2 := asked 2 (by decide)
    have f2 : Nd.kid ⟨25, w, k0, k1, k2, n, l⟩ 2 = k2 := rfl
    rw [f2] at a2
    have ww := wite rfl
    have R := sure_ite w n l b k0 k1 k2 (lkW L N k0) (lkB L N k0).1 (lkB L N k0).2 (lkW L N k1) (lkB L N k1).1 (lkB L N k1).2 (lkW L N k2) (lkB L N k2).1 (lkB L N k2).2 (.pointer (some ⟨p, 0, none⟩)) W (by rw [a1.1, ww.2.1]; exact hw.1) (by rw [a1.1, ww.2.1]; exact hw.2) (lt k1).1 (lt k1).2 (lt k2).1 (lt k2).2 w _ _ (by rw [a1.1, a2.1, ww.2.1, ww.2.2]; (repeat' split) <;> rfl) rfl rfl HL
    rw [a0.2.1, a1.1, a1.2.1, a2.2.1] at R
    exact R
  · have R := sure_none w n l b k0 k1 k2 (lkW L N k0) (lkB L N k0).1 (lkB L N k0).2 (lkW L N k1) (lkB L N k1).1 (lkB L N k1).2 (lkW L N k2) (lkB L N k2).1 (lkB L N k2).2 (.pointer (some ⟨p, 0, none⟩)) W o hn HL
    have e : opK o w n l (widAt L k0) (widAt L k1) (kbAt (kvals L k) k0) (kbAt (kvals L k) k1) (kbAt (kvals L k) k2) (farOf L k1) = (0, 0) := by
      unfold opK
      rw [if_neg (by omega), if_neg (by omega), if_neg (by omega), if_neg (by omega), if_neg (by omega), if_neg (by omega), if_neg (by omega), if_neg (by omega), if_neg (by omega), if_neg (by omega), if_neg (by omega), if_neg (by omega), if_neg (by omega), if_neg (by omega)]
    rw [e]
    exact R
end Kn
end Go.Proofs.Ytigjbngedbbdbaa

namespace Go.Proofs.Ytigjbngedbbdbaa
open Go.RowKit Go.Maps Bv Tm
namespace Kn
set_option maxHeartbeats 1000000
set_option maxRecDepth 100000

theorem lows_even {m : Nat} (hm : m < 18446744073709551616) (h : m &&& 1 = 0) : lows m = 0 := by
  have h2 : m % 2 = 0 := by rw [Nat.and_one_is_mod] at h; exact h
  unfold lows
  rw [Nat.mod_eq_of_lt (by omega)]
  apply Nat.eq_of_testBit_eq
  intro i
  rw [Nat.testBit_and, Nat.zero_testBit]
  have e : 18446744073709551615 - (m + 1) = 2 ^ 64 - (m + 1 + 1) := by omega
  rw [e, Nat.testBit_two_pow_sub_succ (by omega)]
  cases i with
  | zero => simp [Nat.testBit_zero, h2]
  | succ i =>
    have e2 : (m + 1).testBit (i + 1) = m.testBit (i + 1) := by
      rw [Nat.testBit_succ, Nat.testBit_succ]
      congr 1
      omega
    rw [e2]
    cases m.testBit (i + 1) <;> simp
theorem and_even {a b : Nat} (h : a &&& 1 = 0) : (a &&& b) &&& 1 = 0 := by
  rw [Nat.and_assoc, Nat.and_comm b 1, ← Nat.and_assoc, h, Nat.zero_and]
theorem and_even' {a b : Nat} (h : b &&& 1 = 0) : (a &&& b) &&& 1 = 0 := by
  rw [Nat.and_assoc, h, Nat.and_zero]
theorem low_nil (w : Nat) : low w 0 = 0 := by unfold low; simp
/-- What is sure of a node, where what is asked for is there. -/
theorem sure_ready {B : Nat} {W : World} {L : List Nd} {N : List Nat} {b k p m : Nat} {sv : Value} {x : Nd} (S : StoreAt B W p m sv L) (hM : MayL L) (hx : L[k]? = some x) (hm : MapAt W L b N) (hN : ∀ j ∈ N, j < L.length) (hr : Ready L N x) :
    Calls Try.prog 17 #[.pointer (some ⟨p, 0, none⟩), x.val, .map (some b)] W fun e W' => e = .returned (.agg #[.int .u8 ((x.w : Nat) : Int), .int .u64 (((kn L k).1 : Nat) : Int), .int .u64 (((kn L k).2 : Nat) : Int)]) ∧ Below W.heap.size W W' := by
  rcases hr with hk | ⟨j, hj, hin, hno⟩
  · exact sure_any S hM hx hm hN hk
  have g := S.good
  have hmem := List.mem_of_getElem? hx
  have hok := g.ok x hmem
  have hw := g.w x hmem
  have hkn := kn_is hx
  have HL : Hid (LookK W b x.k0 x.k1 x.k2 (lkW L N x.k0) (lkB L N x.k0).1 (lkB L N x.k0).2 (lkW L N x.k1) (lkB L N x.k1).1 (lkB L N x.k1).2 (lkW L N x.k2) (lkB L N x.k2).1 (lkB L N x.k2).2) :=
    Lib.hid ⟨hm.lt, fun w' e => ⟨(hm.same e).look hok.k0, (hm.same e).look hok.k1, (hm.same e).look hok.k2⟩⟩
  have lt : ∀ q, (lkB L N q).1 < 18446744073709551616 ∧ (lkB L N q).2 < 18446744073709551616 := by
    intro q
    unfold lkB
    split
    · rename_i hc
      exact kn_lt64 g hM (hN _ hc.2)
    · exact ⟨by decide, by decide⟩
  obtain ⟨y, hy, _, h0, hyw, hv⟩ := kid_in hM hx (Nat.lt_of_lt_of_le hj (ka_le _))
  have hkb := lkB_in (L := L) h0 hin
  rw [← hkb] at hno
  rw [← hkb] at hv
  obtain ⟨o, w, k0, k1, k2, n, l⟩ := x
  unfold Nd.val
  unfold oneK at hkn
  simp only at *
  rw [hkn]
  clear hkn hN hm hx hmem hok hM S
  unfold nothing at hno
  by_cases h7 : o = 7
  · subst h7
    rw [if_pos rfl, decide_eq_true_eq, Nat.or_eq_zero_iff] at hno
    have R := sure_xor w n l b k0 k1 k2 (lkW L N k0) (lkB L N k0).1 (lkB L N k0).2 (lkW L N k1) (lkB L N k1).1 (lkB L N k1).2 (lkW L N k2) (lkB L N k2).1 (lkB L N k2).2 (.pointer (some ⟨p, 0, none⟩)) W hw.1 hw.2 (lt k0).1 (lt k0).2 (lt k1).1 (lt k1).2 HL
    have hj2 : j = 0 ∨ j = 1 := by have : ka 7 = 2 := by decide
                                   omega
    rcases hj2 with rfl | rfl
    · have f0 : Nd.kid ⟨7, w, k0, k1, k2, n, l⟩ 0 = k0 := rfl
      rw [f0] at hno hv
      rw [hno.1, hno.2] at R
      have e : opK 7 w n l (widAt L k0) (widAt L k1) (kbAt (kvals L k) k0) (kbAt (kvals L k) k1) (kbAt (kvals L k) k2) (farOf L k1) = (0, 0) := by
        unfold opK
        rw [if_neg (by decide), if_neg (by decide), if_neg (by decide), if_neg (by decide), if_pos rfl, hv, hno.1, hno.2]
        simp [low_nil]
      rw [e]
      simp only [Nat.zero_and, Nat.or_self, low_nil] at R
      exact R
    · have f0 : Nd.kid ⟨7, w, k0, k1, k2, n, l⟩ 1 = k1 := rfl
      rw [f0] at hno hv
      rw [hno.1, hno.2] at R
      have e : opK 7 w n l (widAt L k0) (widAt L k1) (kbAt (kvals L k) k0) (kbAt (kvals L k) k1) (kbAt (kvals L k) k2) (farOf L k1) = (0, 0) := by
        unfold opK
        rw [if_neg (by decide), if_neg (by decide), if_neg (by decide), if_neg (by decide), if_pos rfl, hv, hno.1, hno.2]
        simp [low_nil]
      rw [e]
      simp only [Nat.and_zero, Nat.or_self, low_nil] at R
      exact R
  · rw [if_neg h7] at hno
    by_cases h8 : o = 8 ∨ o = 9
    · rw [if_pos h8, decide_eq_true_eq] at hno
      have hka : ka o = 2 := by rcases h8 with rfl | rfl <;> decide
      have hz : (lkB L N k0).1 &&& (lkB L N k1).1 &&& 1 = 0 ∧ (kbAt (kvals L k) k0).1 &&& (kbAt (kvals L k) k1).1 &&& 1 = 0 ∧ (kbAt (kvals L k) k0).1 &&& (kbAt (kvals L k) k1).1 < 18446744073709551616 := by
        have hj2 : j = 0 ∨ j = 1 := by omega
        rcases hj2 with rfl | rfl
        · have f0 : Nd.kid ⟨o, w, k0, k1, k2, n, l⟩ 0 = k0 := rfl
          rw [f0] at hno hv
          exact ⟨and_even hno, by rw [hv]; exact and_even hno, by rw [hv]; exact Nat.lt_of_le_of_lt Nat.and_le_left (lt k0).1⟩
        · have f0 : Nd.kid ⟨o, w, k0, k1, k2, n, l⟩ 1 = k1 := rfl
          rw [f0] at hno hv
          exact ⟨and_even' hno, by rw [hv]; exact and_even' hno, by rw [hv]; exact Nat.lt_of_le_of_lt Nat.and_le_right (lt k1).1⟩
      have l1 := lows_even (m := (lkB L N k0).1 &&& (lkB L N k1).1) (Nat.lt_of_le_of_lt Nat.and_le_left (lt k0).1) hz.1
      have l2 := lows_even hz.2.2 hz.2.1
      have e : opK o w n l (widAt L k0) (widAt L k1) (kbAt (kvals L k) k0) (kbAt (kvals L k) k1) (kbAt (kvals L k) k2) (farOf L k1) = (0, 0) := by
        unfold opK
        rw [if_neg (by omega), if_neg (by omega), if_neg (by omega), if_neg (by omega), if_neg (by omega), if_pos h8, l2, low_nil]
      rw [e]
      rcases h8 with rfl | rfl
      · have R := sure_add w n l b k0 k1 k2 (lkW L N k0) (lkB L N k0).1 (lkB L N k0).2 (lkW L N k1) (lkB L N k1).1 (lkB L N k1).2 (lkW L N k2) (lkB L N k2).1 (lkB L N k2).2 (.pointer (some ⟨p, 0, none⟩)) W hw.1 hw.2 (lt k0).1 (lt k1).1 HL
        rw [l1, low_nil] at R
        exact R
      · have R := sure_sub w n l b k0 k1 k2 (lkW L N k0) (lkB L N k0).1 (lkB L N k0).2 (lkW L N k1) (lkB L N k1).1 (lkB L N k1).2 (lkW L N k2) (lkB L N k2).1 (lkB L N k2).2 (.pointer (some ⟨p, 0, none⟩)) W hw.1 hw.2 (lt k0).1 (lt k1).1 HL
        rw [l1, low_nil] at R
        exact R
    · rw [if_neg h8] at hno
      cases hno
end Kn
end Go.Proofs.Ytigjbngedbbdbaa

namespace Go.Proofs.Ytigjbngedbbdbaa
open Go.RowKit Go.Maps Bv Tm
namespace Kn
set_option maxHeartbeats 1000000
set_option maxRecDepth 100000

/-- The list of what is to do, the map of what is done, the answer's block A. -/
structure OfAt (W : World) (L : List Nd) (A bm : Nat) (tv : Value) (T N : List Nat) (w : World) : Prop where
  row : w.ownsRow W.heap.size 3 1 tv T.length (todoRow T)
  map : MapAt w L bm N
  mb : W.heap.size ≤ bm
  bel : Below W.heap.size W w
  a0 : w.cell? ⟨A, 0, none⟩ = some (.int .u64 0)
  a1 : w.cell? ⟨A, 1, none⟩ = some (.int .u64 0)
  fr : ∀ o, w.frozen? ⟨A, o, none⟩ = false
  al : A < w.heap.size
  ag : W.heap.size ≤ A
  ab : A ≠ bm
  rm : tv.ownBlock ≠ some bm
  ra : tv.ownBlock ≠ some A
section
variable {W w w' : World} {L : List Nd} {A bm t : Nat} {tv : Value} {T T0 N : List Nat}
theorem OfAt.kept {F : Nat → Prop} (h : OfAt W L A bm tv T N w) (k : Kept F w w') (fa : ¬ F A) (fm : ¬ F bm) (ft : ∀ g, tv.ownBlock = some g → ¬ F g) (fw : ∀ i, i < W.heap.size → ¬ F i) : OfAt W L A bm tv T N w' :=
  ⟨row_kept h.row k ft, h.map.same (k.block bm h.map.lt fm), h.mb, h.bel.trans (k.below (fun i hi c => fw i hi c) h.bel.size), (k.cell (x := ⟨A, 0, none⟩) h.al fa).trans h.a0, (k.cell (x := ⟨A, 1, none⟩) h.al fa).trans h.a1,
    fun o => (k.frozen (x := ⟨A, o, none⟩) h.al fa).trans (h.fr o), Nat.lt_of_lt_of_le h.al k.size, h.ag, h.ab, h.rm, h.ra⟩
theorem OfAt.call (h : OfAt W L A bm tv T N w) (k : Below w.heap.size w w') : OfAt W L A bm tv T N w' :=
  h.kept (Kept.ofBelow k (fun _ => False)) (fun x => x) (fun x => x) (fun _ _ x => x) (fun _ _ x => x)
/-- The last of what is to do. -/
theorem OfAt.last (h : OfAt W L A bm tv (T0 ++ [t]) N w) : ∃ g c, tv = .slice (some ⟨g, 0, none⟩) (T0.length + 1) c ∧ T0.length + 1 ≤ c ∧ g < w.heap.size ∧ w.cell? ⟨g, T0.length, none⟩ = some (.int .i64 ((t : Nat) : Int)) ∧ g ≠ bm ∧ g ≠ A := by
  have hr := h.row
  have hm := h.rm
  have ha := h.ra
  rcases h.row with ⟨_, ⟨h1, h2⟩ | ⟨g, cap, cur, hv, hb, hh, hc, _⟩⟩
  · simp at h2
  · subst hv
    refine ⟨g, cap, by simp, by simpa using hc, (Array.getElem?_eq_some_iff.1 hh).1, ?_, fun e => hm (by rw [e]; rfl), fun e => ha (by rw [e]; rfl)⟩
    have := hr.cells (g := g) rfl T0.length (.int .i64 ((t : Nat) : Int)) (by simp [todoRow])
    have e : (⟨g, 0, none⟩ : Addr).add T0.length = ⟨g, T0.length, none⟩ := by
      unfold Addr.add
      split <;> simp_all
    rw [e] at this
    exact this
/-- The last of it is taken off. -/
theorem OfAt.drop {g c : Nat} (h : OfAt W L A bm (.slice (some ⟨g, 0, none⟩) (T0.length + 1) c) (T0 ++ [t]) N w) : OfAt W L A bm (.slice (some ⟨g, 0, none⟩) T0.length c) T0 N w := by
  refine ⟨?_, h.map, h.mb, h.bel, h.a0, h.a1, h.fr, h.al, h.ag, h.ab, h.rm, h.ra⟩
  rcases h.row with ⟨_, ⟨h1, h2⟩ | ⟨g', cap, cur, hv, hb, hh, hc, hx, hs, ht⟩⟩
  · simp at h2
  · simp only [Value.slice.injEq, Option.some.injEq, Addr.mk.injEq] at hv
    obtain ⟨⟨e1, _⟩, _, e2⟩ := hv
    subst e1
    subst e2
    refine ⟨by simp [todoRow], .inr ⟨g, c, cur, rfl, hb, hh, by simp at hc; omega, hx, hs, ?_⟩⟩
    have e : todoRow (T0 ++ [t]) = todoRow T0 ++ [.int .i64 ((t : Nat) : Int)] := by simp [todoRow]
    rw [e] at ht
    have e3 : (cur.toList.take (T0.length * 1)) = (cur.toList.take ((T0 ++ [t]).length * 1)).take T0.length := by
      rw [List.take_take]
      congr 1
      simp
    rw [e3, ht]
    have : (todoRow T0).length = T0.length := by simp [todoRow]
    rw [← this, List.take_left']
    rfl
/-- More comes on top. -/
theorem OfAt.more {w2 : World} {M : List Nat} {v' : Value} (h : OfAt W L A bm tv T N w) (hg : w.grownBy w2 tv.ownBlock) (hrow : w2.ownsRow W.heap.size 3 1 v' (T.length + M.length) (todoRow T ++ todoRow M)) (hloc : v'.ownBlock = tv.ownBlock ∨ v'.ownBlock = some w.heap.size) : OfAt W L A bm v' (T ++ M) N w2 := by
  have tlt : ∀ g, tv.ownBlock = some g → W.heap.size ≤ g := fun g e => (h.row.lt g e).1
  have al := h.al
  have ml := h.map.lt
  have K : Kept (fun i => tv.ownBlock = some i) w w2 := kept_grown hg (fun i e => e)
  refine ⟨?_, h.map.same (K.block bm ml (fun c => h.rm c)), h.mb, h.bel.trans (K.below (fun i hi c => by have := tlt i c; omega) h.bel.size), (K.cell (x := ⟨A, 0, none⟩) al h.ra).trans h.a0, (K.cell (x := ⟨A, 1, none⟩) al h.ra).trans h.a1,
    fun o => (K.frozen (x := ⟨A, o, none⟩) al h.ra).trans (h.fr o), Nat.lt_of_lt_of_le al K.size, h.ag, h.ab, ?_, ?_⟩
  · have e : todoRow (T ++ M) = todoRow T ++ todoRow M := by simp [todoRow]
    rw [e, List.length_append]
    exact hrow
  · rcases hloc with e | e
    · rw [e]; exact h.rm
    · rw [e]; intro c; simp at c; omega
  · rcases hloc with e | e
    · rw [e]; exact h.ra
    · rw [e]; intro c; simp at c; omega
/-- One node more is done. -/
theorem OfAt.put (h : OfAt W L A bm tv T N w) (ht : t < 200001) (hn : N.length ≤ 200000) {key val : Value} (hkey : key = .int .i64 ((t : Nat) : Int)) (hval : val = .agg #[.int .u8 ((widAt L ((t : Nat) : Int) : Nat) : Int), .int .u64 (((kn L t).1 : Nat) : Int), .int .u64 (((kn L t).2 : Nat) : Int)]) :
    ∃ w', (Instr.mapUpdate 60 (.map (some bm)) key val).run Try.prog w = .ok () w' ∧ OfAt W L A bm tv T (addK N t) w' ∧ Kept (fun i => i = bm) w w' := by
  subst hkey
  subst hval
  obtain ⟨D, hO, hT⟩ := h.map
  have hk6 : I64 ((t : Nat) : Int) := by unfold I64; omega
  obtain ⟨w', hrun, ho, ht1⟩ := hO.store law_int Try.underlying60 (by unfold maxLen; omega) (key_int hk6) (kbElem_mk _ _ _)
  have hT' := hT.add hk6
  have hg1 := ht1.grown
  have K := kept_grown hg1 (F := fun i => i = bm) (fun i e => by simpa using e.symm)
  have mb := h.mb
  have al := h.al
  refine ⟨w', hrun, ⟨row_kept h.row K (fun g e c => h.rm (by rw [e, c])), ⟨_, owns_fit ho (by have := hT'.size; unfold kbLit at this; omega), hT'⟩, mb, h.bel.trans (K.below (fun i hi c => by omega) h.bel.size), (K.cell (x := ⟨A, 0, none⟩) al h.ab).trans h.a0, (K.cell (x := ⟨A, 1, none⟩) al h.ab).trans h.a1,
    fun o => (K.frozen (x := ⟨A, o, none⟩) al h.ab).trans (h.fr o), Nat.lt_of_lt_of_le al K.size, h.ag, h.ab, h.rm, h.ra⟩, K⟩
end

/-- What the last statement of a round reads. -/
structure OfS (g n0 t bx : Nat) (x0 x1 x2 x3 x4 x5 x6 : Value) (w : World) : Prop where
  cell : w.cell? ⟨g, n0, none⟩ = some (.int .i64 ((t : Nat) : Int))
  lt : g < w.heap.size
  box : At7 w bx x0 x1 x2 x3 x4 x5 x6
theorem OfS.call {g n0 t bx : Nat} {x0 x1 x2 x3 x4 x5 x6 : Value} {w w' : World} (h : OfS g n0 t bx x0 x1 x2 x3 x4 x5 x6 w) (k : Below w.heap.size w w') : OfS g n0 t bx x0 x1 x2 x3 x4 x5 x6 w' :=
  ⟨(k.cell (p := ⟨g, n0, none⟩) h.lt).trans h.cell, Nat.lt_of_lt_of_le h.lt k.size, h.box.keep k⟩
theorem OfS.kept {g n0 t bx : Nat} {x0 x1 x2 x3 x4 x5 x6 : Value} {w w' : World} {F : Nat → Prop} (h : OfS g n0 t bx x0 x1 x2 x3 x4 x5 x6 w) (k : Kept F w w') (hg : ¬ F g) (hb : ¬ F bx) : OfS g n0 t bx x0 x1 x2 x3 x4 x5 x6 w' :=
  ⟨(k.cell (x := ⟨g, n0, none⟩) h.lt hg).trans h.cell, Nat.lt_of_lt_of_le h.lt k.size, h.box.move (fun o => k.cell (x := ⟨bx, o, none⟩) h.box.lt hb)⟩
theorem MapAt.len {w : World} {L : List Nd} {b : Nat} {N : List Nat} (h : MapAt w L b N) (hn : ∀ j ∈ N, j < L.length) : N.length ≤ L.length := by
  obtain ⟨D, _, hT⟩ := h
  exact nodup_le _ _ hT.nd hn
theorem field_1 (a b c : Int) (w : World) : (Instr.field 65 (.agg #[.int .u8 a, .int .u64 b, .int .u64 c]) 1).run Try.prog w = .ok (.int .u64 b) w := by kernel_rfl
theorem field_2 (a b c : Int) (w : World) : (Instr.field 65 (.agg #[.int .u8 a, .int .u64 b, .int .u64 c]) 2).run Try.prog w = .ok (.int .u64 c) w := by kernel_rfl
theorem heap_new (w : World) (o : Obj) : (w.alloc o).heap[w.heap.size]? = some o := by
  show (w.heap.push o)[w.heap.size]? = some o
  exact Array.getElem?_push_size
theorem row_new (w : World) (k : Int) (base : Nat) (hb : base ≤ w.heap.size) : (w.alloc (.cells #[.int .i64 k] 3)).ownsRow base 3 1 (.slice (some ⟨w.heap.size, 0, none⟩) 1 1) 1 [.int .i64 k] :=
  ⟨rfl, .inr ⟨w.heap.size, 1, #[.int .i64 k], rfl, hb, heap_new _ _, Nat.le_refl _, by unfold maxLen; omega, rfl, rfl⟩⟩
/-- At each round's head. -/
def OfRel (W : World) (L : List Nd) (A bm id gk : Nat) (tv : Value) (w : World) : Prop := ∃ (F N : List Nat), OfAt W L A bm tv F N w ∧ Inv L id F N ∧ gk = mu L F N
end Kn
end Go.Proofs.Ytigjbngedbbdbaa

namespace Go.Proofs
open Go.Shelf
def Try.lays189_ren : Go.Shelf.Ren := ⟨fun | 189 => 30 | 125 => 55 | 257 => 54 | 128 => 79 | 129 => 80 | 294 => 70 | 295 => 71 | 296 => 72 | 297 => 73 | 298 => 74 | 299 => 75 | 216 => 76 | 300 => 77 | 301 => 78 | 328 => 87 | 329 => 88 | 330 => 89 | 331 => 90 | 332 => 91 | 215 => 92 | 343 => 95 | n => n, fun | 28 => 61 | 3 => 3 | 46 => 41 | 0 => 0 | 51 => 126 | 53 => 27 | 4 => 4 | 183 => 119 | 182 => 118 | 131 => 62 | 5 => 5 | 9 => 9 | 218 => 131 | 222 => 135 | 228 => 138 | 229 => 139 | n => n, fun | n => n⟩
theorem Try.lays189 : Go.Proofs.Lays.n189 Try.prog Try.lays189_ren := {
  mixed := by kernel_rfl
  f125 := Try.func55.trans (congrArg some (by kernel_rfl))
  f128 := Try.func79.trans (congrArg some (by kernel_rfl))
  f129 := Try.func80.trans (congrArg some (by kernel_rfl))
  f189 := Try.func30.trans (congrArg some (by kernel_rfl))
  f215 := Try.func92.trans (congrArg some (by kernel_rfl))
  f216 := Try.func76.trans (congrArg some (by kernel_rfl))
  f257 := Try.func54.trans (congrArg some (by kernel_rfl))
  f294 := Try.func70.trans (congrArg some (by kernel_rfl))
  f295 := Try.func71.trans (congrArg some (by kernel_rfl))
  f296 := Try.func72.trans (congrArg some (by kernel_rfl))
  f297 := Try.func73.trans (congrArg some (by kernel_rfl))
  f298 := Try.func74.trans (congrArg some (by kernel_rfl))
  f299 := Try.func75.trans (congrArg some (by kernel_rfl))
  f300 := Try.func77.trans (congrArg some (by kernel_rfl))
  f301 := Try.func78.trans (congrArg some (by kernel_rfl))
  f328 := Try.func87.trans (congrArg some (by kernel_rfl))
  f329 := Try.func88.trans (congrArg some (by kernel_rfl))
  f330 := Try.func89.trans (congrArg some (by kernel_rfl))
  f331 := Try.func90.trans (congrArg some (by kernel_rfl))
  f332 := Try.func91.trans (congrArg some (by kernel_rfl))
  f343 := Try.func95.trans (congrArg some (by kernel_rfl))
  t0 := Try.underlying0
  a0 := Try.isAgg0
  z0 := Try.sizeOf0
  v0 := Try.zeroValue0
  t3 := Try.underlying3
  a3 := Try.isAgg3
  z3 := Try.sizeOf3
  v3 := Try.zeroValue3
  t4 := Try.underlying4
  a4 := Try.isAgg4
  z4 := Try.sizeOf4
  v4 := Try.zeroValue4
  t5 := Try.underlying5
  a5 := Try.isAgg5
  z5 := Try.sizeOf5
  v5 := Try.zeroValue5
  t9 := Try.underlying9
  a9 := Try.isAgg9
  z9 := Try.sizeOf9
  v9 := Try.zeroValue9
  t28 := Try.underlying61
  a28 := Try.isAgg61
  z28 := Try.sizeOf61
  v28 := Try.zeroValue61
  t46 := Try.underlying41
  a46 := Try.isAgg41
  z46 := Try.sizeOf41
  v46 := Try.zeroValue41
  t51 := Try.underlying126
  a51 := Try.isAgg126
  z51 := Try.sizeOf126
  v51 := Try.zeroValue126
  t53 := Try.underlying27
  a53 := Try.isAgg27
  z53 := Try.sizeOf27
  v53 := Try.zeroValue27
  t131 := Try.underlying62
  a131 := Try.isAgg62
  z131 := Try.sizeOf62
  v131 := Try.zeroValue62
  t182 := Try.underlying118
  a182 := Try.isAgg118
  z182 := Try.sizeOf118
  v182 := Try.zeroValue118
  t183 := Try.underlying119
  a183 := Try.isAgg119
  z183 := Try.sizeOf119
  v183 := Try.zeroValue119
  t218 := Try.underlying131
  a218 := Try.isAgg131
  z218 := Try.sizeOf131
  v218 := Try.zeroValue131
  t222 := Try.underlying135
  a222 := Try.isAgg135
  z222 := Try.sizeOf135
  v222 := Try.zeroValue135
  t228 := Try.underlying138
  a228 := Try.isAgg138
  z228 := Try.sizeOf138
  v228 := Try.zeroValue138
  t229 := Try.underlying139
  a229 := Try.isAgg139
  z229 := Try.sizeOf139
  v229 := Try.zeroValue139 }
open Go.Sort Go.RowKit in
theorem Try.slices_Sort_int (blk off cap : Nat) (zs : List Int) (w : World) (hH : Holds (Value.int .i64) w blk off zs.toArray) (hblk : blk < w.heap.size) (hsz : zs.length < 4611686018427387904) :
    Calls Try.prog 30 #[.slice (some ⟨blk, off, none⟩) zs.length cap] w fun e w' =>
      e = .returned (.tuple #[]) ∧ ∃ n os, w' = grow (putRow (Value.int .i64) (Sort.ahead w n) blk off (zs.mergeSort fun x y => decide (x ≤ y)).toArray) os := Any.slices_Sort_int Try.lays189 blk off cap zs w hH hblk hsz
open Go.RowKit Go.Sort in
theorem Try.slices_Sort_int_none (p : Option Addr) (cap : Nat) (w : World) :
    Calls Try.prog 30 #[.slice p 0 cap] w fun e w' => e = .returned (.tuple #[]) ∧ w' = w := Any.slices_Sort_int_none Try.lays189 p cap w
end Go.Proofs

namespace Go.Proofs.Ytigjbngedbbdbaa
open Go.RowKit Go.Maps Bv Tm Go.Sort
namespace Kn
set_option maxHeartbeats 1000000
set_option maxRecDepth 100000

theorem pick_any {W : World} {L : List Nd} {N : List Nat} {b : Nat} {x : Nd} (hM : MapAt W L b N) (ho : x.o ≤ 25) (hk : ∀ j, j < ka x.o → 0 ≤ x.kid j ∧ x.kid j < 9223372036854775808) (hlt : ∀ q, (lkB L N q).1 < 18446744073709551616 ∧ (lkB L N q).2 < 18446744073709551616) :
    Calls Try.prog 16 #[x.val, .map (some b)] W (MissE W L N x) := by
  have hka : ka x.o ≤ 3 := Nat.le_trans (ka_le _) (kc_le _)
  obtain ⟨n, hn⟩ : ∃ n, ka x.o = n := ⟨_, rfl⟩
  have HK := Lib.hid (fun W => ka_any ho W)
  rw [hn] at hka hk HK
  have HE : Hid (∀ w e, ((∃ k : Nat, e = .returned (.tuple #[.int .i64 ((k : Nat) : Int), .bool true]) ∧ (∃ j, j < n ∧ (x.kid j).toNat = k) ∧ k ∉ N) ∨ (e = .returned (.tuple #[.int .i64 0, .bool false]) ∧ ((∀ j, j < n → (x.kid j).toNat ∈ N) ∨ ∃ j, j < n ∧ (x.kid j).toNat ∈ N ∧ nothing x.o (kn L (x.kid j).toNat) = true))) → Below W.heap.size W w → MissE W L N x e w) := Lib.hid (fun w e h hb => by
    unfold MissE Ready
    rw [hn]
    exact ⟨h, hb⟩)
  have HLV := Lib.hid (fun (z : Nat) (q : Nat) (wd : Int) (hz : z < 18446744073709551616) (hq : q < 18446744073709551616) (W : World) => leaves_any ho wd hz hq W)
  have HLT := Lib.hid hlt
  have HKID := Lib.hid hk
  have h7 := At7.new W (.int .u8 ((x.o : Nat) : Int)) (.int .u8 ((x.w : Nat) : Int)) (.int .i64 x.k0) (.int .i64 x.k1) (.int .i64 x.k2) (.int .u64 ((x.n : Nat) : Int)) (.int .u8 ((x.l : Nat) : Int)) 57
  have hH0 : Holds (Value.int .i64) (W.alloc (.cells #[.int .u8 ((x.o : Nat) : Int), .int .u8 ((x.w : Nat) : Int), .int .i64 x.k0, .int .i64 x.k1, .int .i64 x.k2, .int .u64 ((x.n : Nat) : Int), .int .u8 ((x.l : Nat) : Int)] 57)) W.heap.size 2 ((List.range n).map x.kid).toArray := by
    intro j hj
    have hj2 : j < n := by simpa using hj
    have e : ((List.range n).map x.kid).toArray[j]! = x.kid j := by simp [hj2]
    rw [e]
    unfold At7 at h7
    refine ⟨?_, by simp [go_sem]⟩
    match j, (show j < 3 by omega) with
    | 0, _ => exact h7.2.2.1
    | 1, _ => exact h7.2.2.2.1
    | 2, _ => exact h7.2.2.2.2.1
  have HS := Lib.hid (fun (w' : World) h => pick_sorted (w' := w') (x := x) hka hM h hH0)
  have hsrt := Try.slices_Sort_int W.heap.size 2 3 ((List.range n).map x.kid) (W.alloc (.cells #[.int .u8 ((x.o : Nat) : Int), .int .u8 ((x.w : Nat) : Int), .int .i64 x.k0, .int .i64 x.k1, .int .i64 x.k2, .int .u64 ((x.n : Nat) : Int), .int .u8 ((x.l : Nat) : Int)] 57)) hH0 (by simp) (by simp; omega)
  rw [show ((List.range n).map x.kid).length = n by simp] at hsrt
  have HSRT := Lib.hid hsrt
  have hp := List.mergeSort_perm ((List.range n).map x.kid) (fun x y => decide (x ≤ y))
  obtain ⟨r, hr⟩ : ∃ r, r = ((List.range n).map x.kid).mergeSort fun x y => decide (x ≤ y) := ⟨_, rfl⟩
  rw [← hr] at hp HS HSRT
  have hlen : r.length = n := by rw [hp.length_eq]; simp
  have HR1 : Hid (∀ i q, r[i]? = some q → ∃ j, j < n ∧ x.kid j = q) := Lib.hid (fun i q hq => by
    have := (hp.mem_iff (a := q)).1 (List.mem_of_getElem? hq)
    simp only [List.mem_map, List.mem_range] at this
    exact this)
  have HR2 : Hid (∀ j, j < n → ∃ i : Nat, i < n ∧ r[i]? = some (x.kid j)) := Lib.hid (fun j hj => by
    have := (hp.mem_iff (a := x.kid j)).2 (by simp only [List.mem_map, List.mem_range]; exact ⟨j, hj, rfl⟩)
    obtain ⟨i, hi⟩ := List.mem_iff_getElem?.1 this
    exact ⟨i, by rw [← hlen]; exact (List.getElem?_eq_some_iff.1 hi).1, hi⟩)
  have HLEN := Lib.hid hlen
  have q3 : ((n : Nat) : Int) ≤ 3 := by omega
  have q0 : (0 : Int) ≤ ((n : Nat) : Int) := by omega
  have hn3 := Lib.hid hka
  unfold Nd.val
  clear hn hk hM ho hka hlt h7 hH0 hsrt hp hr hlen
  go_enter Try.func16, Try.ntmps16
  go_wp2_with fail
  refine (HK.out _).mono ?_
  rintro e w1 ⟨rfl, rfl⟩
  go_wp2_with fail
  refine HSRT.out.mono ?_
  rintro e w2 ⟨rfl, hw2⟩
  have HP2 := Lib.hid (HS.out w2 hw2)
  clear hw2 HS HSRT
  go_wp2_with fail
  go_loopg [20] n (fun gk u20 wr => ∃ i : Nat, u20 = .int .i64 ((i : Nat) : Int) ∧ i + gk = n ∧ PickAt W L N b x r wr ∧ ∀ i' q, i' < i → r[i']? = some q → q.toNat ∈ N)
  case atStart => exact ⟨0, rfl, by omega, HP2.out, fun i' q h => by omega⟩
  case round =>
    obtain ⟨i, rfl, hgk, hA, hin0⟩ := hrel
    have HA := Lib.hid hA
    have HGK := Lib.hid hgk
    have HIN0 := Lib.hid hin0
    by_cases hi : i < n
    case pos =>
      obtain ⟨kq, hkq⟩ : ∃ kq, r[i]? = some kq := ⟨_, List.getElem?_eq_getElem (by rw [HLEN.out]; exact hi)⟩
      obtain ⟨j, hj, hjq⟩ := HR1.out i kq hkq
      have c0 := hA.box i kq hkq
      have lbl := hA.bl
      have c1 := hA.op
      have kid0 : 0 ≤ kq := by have := (HKID.out j hj).1; omega
      have kid1 : I64 kq := by have := (HKID.out j hj); unfold I64; omega
      have HK0 := Lib.hid kid0
      have q1 : ((i : Nat) : Int) < ((n : Nat) : Int) := by omega
      have q2 : (0 : Int) ≤ ((i : Nat) : Int) := by omega
      have r1 : IntKind.i64.wrap (((i : Nat) : Int) + 1) = (((i + 1 : Nat) : Nat) : Int) := by have := hn3.out; rw [IntKind.wrap_i64]; omega
      have r2 : wrap64 (((i : Nat) : Int) + 1) = (((i + 1 : Nat) : Nat) : Int) := by unfold wrap64; rw [← IntKind.wrap_i64]; exact r1
      have hl := hA.map.look2 kid1
      have HKQ := Lib.hid (And.intro hkq (And.intro hj hjq))
      have HR2' := Lib.hid r2
      by_cases hin : kq.toNat ∈ N
      case pos =>
        rw [show decide (0 ≤ kq ∧ kq.toNat ∈ N) = true from decide_eq_true ⟨kid0, hin⟩] at hl
        unfold lkV at hl
        have HIN := Lib.hid hin
        have HKB : Hid (lkB L N kq = kn L kq.toNat) := Lib.hid (lkB_in kid0 hin)
        have hLV := HLV.out (lkB L N kq).1 (lkB L N kq).2 ((lkW L N kq : Nat) : Int) (HLT.out kq).1 (HLT.out kq).2
        obtain ⟨nb, hnb⟩ : ∃ nb, nb = nothing x.o ((lkB L N kq).1, (lkB L N kq).2) := ⟨_, rfl⟩
        rw [← hnb] at hLV
        have HNB := Lib.hid hnb
        have HLV2 := Lib.hid hLV
        have HA2 := Lib.hid (hA.call (bel_alloc (Below.refl _ _) (.cells #[.int .u8 ((lkW L N kq : Nat) : Int), .int .u64 (((lkB L N kq).1 : Nat) : Int), .int .u64 (((lkB L N kq).2 : Nat) : Int)] 65)))
        clear hA hgk hin hkq hj hjq kid0 kid1 hin0 hnb hLV
        cases nb
        case false =>
          go_wp2_with fail
          refine (HLV2.out _).mono ?_
          rintro e w3 ⟨rfl, hb3⟩
          have HA3 := Lib.hid (HA2.out.call hb3)
          clear hb3
          go_wp2_with fail
          go_roundg (gk - 1)
          case measure => have := HGK.out; omega
          case rel => exact ⟨i + 1, by first | rfl | (rw [HR2'.out]) | (congr 1; exact HR2'.out), by have := HGK.out; omega, HA3.out, fun i' q h hq => by
            by_cases e : i' = i
            · subst e; rw [HKQ.out.1] at hq; simp only [Option.some.injEq] at hq; rw [← hq]; exact HIN.out
            · exact HIN0.out i' q (by omega) hq⟩
        case true =>
          have hpost : ∀ w, Below W.heap.size W w → MissE W L N x (.returned (.tuple #[.int .i64 0, .bool false])) w := fun w hb => HE.out _ _ (.inr ⟨rfl, .inr ⟨j, HKQ.out.2.1, by rw [HKQ.out.2.2]; exact HIN.out, by rw [HKQ.out.2.2, ← HKB.out]; exact HNB.out.symm⟩⟩) hb
          have HPO := Lib.hid hpost
          clear hpost
          go_wp2_with fail
          refine (HLV2.out _).mono ?_
          rintro e w3 ⟨rfl, hb3⟩
          have HA3 := Lib.hid (HA2.out.call hb3)
          clear hb3
          go_wp2_with fail
          go_ret2
          exact HPO.out _ HA3.out.bel
      case neg =>
        rw [show decide (0 ≤ kq ∧ kq.toNat ∈ N) = false from decide_eq_false (fun c => hin c.2)] at hl
        unfold lkV at hl
        have hpost : ∀ w, Below W.heap.size W w → MissE W L N x (.returned (.tuple #[.int .i64 kq, .bool true])) w := fun w hb => HE.out _ _ (.inl ⟨kq.toNat, by rw [Int.toNat_of_nonneg HK0.out], ⟨j, HKQ.out.2.1, by rw [HKQ.out.2.2]⟩, hin⟩) hb
        have HPO := Lib.hid hpost
        clear hA hgk hin hkq hj hjq kid0 kid1 hin0 hpost
        go_wp2_with fail
        go_ret2
        exact HPO.out _ (bel_alloc HA.out.bel _)
    case neg =>
      have q1 : ¬ ((i : Nat) : Int) < ((n : Nat) : Int) := by omega
      obtain rfl : i = n := by omega
      have hpost : ∀ w, Below W.heap.size W w → MissE W L N x (.returned (.tuple #[.int .i64 0, .bool false])) w := fun w hb => HE.out _ _ (.inr ⟨rfl, .inl fun j hj => by
        obtain ⟨i', hi', hq⟩ := HR2.out j hj
        exact HIN0.out i' _ hi' hq⟩) hb
      have HPO := Lib.hid hpost
      clear hA hgk hin0 hpost
      go_wp2_with fail
      go_ret2
      exact HPO.out _ HA.out.bel
end Kn
end Go.Proofs.Ytigjbngedbbdbaa
