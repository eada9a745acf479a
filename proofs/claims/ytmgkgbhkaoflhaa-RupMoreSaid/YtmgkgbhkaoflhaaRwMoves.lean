/-
  A clause watches another literal, if there is one.
-/
import Derived.Test.YtmgkgbhkaoflhaaA6
import Derived.Test.YtmgkgbhkaoflhaaRwWatch
import Derived.BigRegion
namespace Go.Proofs.Ytmgkgbhkaoflhaa
open Go.RowKit
namespace Rw
open Cf Rp
set_option maxHeartbeats 6400000
set_option maxRecDepth 100000

/-- Where it stands behind so many steps. -/
def posn (n a i : Nat) : Nat := if a + i < n then a + i else a + i - n + 2
theorem posn_zero {n a : Nat} (h : a < n) : posn n a 0 = a := by unfold posn; rw [if_pos (by omega)]; rfl
theorem posn_lt {n a i : Nat} (h : a < n) (h1 : 1 ≤ a) (hi : i + 2 ≤ n) : 1 ≤ posn n a i ∧ posn n a i < n ∧ (1 ≤ i → 2 ≤ posn n a i) := by
  unfold posn
  split <;> omega
theorem posn_succ {n a i : Nat} (h : a < n) (hi : i + 3 ≤ n) : posn n a (i + 1) = if posn n a i + 1 = n then 2 else posn n a i + 1 := by
  unfold posn
  split <;> split <;> split <;> omega
theorem posn_all {n a q : Nat} (h : a < n) (h1 : 1 ≤ a) (h2 : 2 ≤ q) (hq : q < n) : ∃ i, 1 ≤ i ∧ i + 2 ≤ n ∧ posn n a i = q := by
  by_cases c : a < q
  · exact ⟨q - a, by omega, by omega, by unfold posn; rw [if_pos (by omega)]; omega⟩
  · exact ⟨q + n - 2 - a, by omega, by omega, by unfold posn; rw [if_neg (by omega)]; omega⟩
/-- What 'moves' has done. -/
def MovesE (B v : Nat) (W : World) (k : Nat) (L : Lay) (s : PS) (gap : Option Nat) (c : Nat) (o l : Int) (r : List Int) (e : Ending) (w : World) : Prop :=
  (e = .returned (.bool false) ∧ ∃ a, 1 ≤ a ∧ a < r.length + 2 ∧ KAt B v w k L { s with ax := up s.ax c a } (s.T.elem ·) gap ∧ Kept L W w L ∧ ∀ m ∈ r, s.hol (-m) = true) ∨
  (e = .returned (.bool true) ∧ ∃ (a j : Nat) (m : Int) (L' : Lay), 1 ≤ a ∧ a < r.length + 2 ∧ r[j]? = some m ∧ s.hol (-m) = false ∧
    KAt B v w k L' { s with lit := up s.lit c (o :: m :: r.set j l), ax := up s.ax c a, W := up s.W (pl v m) (s.W (pl v m) ++ [c]) } (s.T.elem ·) gap ∧ Kept L W w L')
theorem moves_any {B v : Nat} {W : World} {k : Nat} {L : Lay} {s : PS} {gap : Option Nat} (h : KAt B v W k L s (s.T.elem ·) gap) (hv : v ≤ 1000000) (hB : B ≤ W.heap.size) {c : Nat} {o l : Int} {r : List Int} (hc : c ∈ s.ids) (hl : s.lit c = o :: l :: r) (hlit : ∀ x ∈ r, isL x v = true) (hg : ∀ m ∈ r, gap ≠ some (pl v m)) (hn : ∀ p, (s.W p).length ≤ 1000000) (hlen : r.length ≤ 1000000) (ha1 : 1 ≤ s.ax c) (ha2 : s.ax c < r.length + 2) :
    Calls Try.prog 60 #[.pointer (some ⟨k, 0, none⟩), .pointer (some ⟨c, 0, none⟩)] W (MovesE B v W k L s gap c o l r) := by
  obtain ⟨g, cap, hv2, hcap, hx, hf, htg⟩ := h.lits hc (by rw [hl]; simp)
  have c0 := (h.clause hc).1
  rw [hv2] at c0
  obtain ⟨n, hnn⟩ : ∃ n, n = r.length := ⟨_, rfl⟩
  have hln : (s.lit c).length = n + 2 := by rw [hl, hnn]; simp
  rw [hln] at c0 hcap
  have HK := Lib.hid h
  have HV := Lib.hid hv2
  have HL := Lib.hid hl
  have HLIT := Lib.hid hlit
  have HG := Lib.hid hg
  have HN := Lib.hid hn
  have HB := Lib.hid hB
  have HNN := Lib.hid hnn
  have HTG := Lib.hid htg
  obtain ⟨a0, ha0⟩ : ∃ a0, a0 = s.ax c := ⟨_, rfl⟩
  have HA0 := Lib.hid ha0
  rw [← ha0] at ha1 ha2
  rw [← hnn] at ha2
  have HA := Lib.hid (And.intro ha1 ha2)
  have hcg : c ≠ g := fun e => by
    have := h.ti c hc
    rw [e, htg] at this; cases this
  have hn3 : n ≤ 1000000 := by omega
  clear h hv2 hl hlit hg hn hB hlen hx hf htg ha0 hln hnn ha1 ha2
  by_cases hc2 : cap = 2
  · obtain rfl : n = 0 := by omega
    subst hc2
    have HR : Hid (r = []) := Lib.hid (List.eq_nil_of_length_eq_zero HNN.out.symm)
    go_enter Try.func60, Try.ntmps60
    go_wp2_with fail
    go_loopg [12] 0 (fun gk v12 wr => v12 = .int .i64 0 ∧ wr = W)
    case atStart => exact ⟨rfl, rfl⟩
    case round =>
      obtain ⟨rfl, rfl⟩ := hrel
      go_wp2_with fail
      go_ret
      exact .inl ⟨rfl, s.ax c, by rw [← HA0.out]; exact HA.out.1, by rw [← HA0.out, HR.out]; exact HA.out.2, by rw [up_self rfl]; exact HK.out, Kept.refl _ _, fun m hm => by rw [HR.out] at hm; cases hm⟩
  go_enter Try.func60, Try.ntmps60
  go_wp2_with fail
  go_loopg [12] n (fun gk v12 wr => ∃ i, v12 = .int .i64 ((i : Nat) : Int) ∧ i + gk = n ∧ KAt B v wr k L { s with ax := up s.ax c (posn (n + 2) a0 i) } (s.T.elem ·) gap ∧ Kept L W wr L ∧ ∀ i' m, 1 ≤ i' → i' ≤ i → (o :: l :: r)[posn (n + 2) a0 i']? = some m → s.hol (-m) = true)
  case atStart => exact ⟨0, rfl, by omega, by rw [posn_zero HA.out.2, up_self HA0.out.symm]; exact HK.out, Kept.refl _ _, fun i' m h1 h2 => by omega⟩
  case round =>
    obtain ⟨i, rfl, hi, hk, hp, hvis⟩ := hrel
    clear c0
    have HI := Lib.hid hi
    have HP := Lib.hid hp
    have HVIS := Lib.hid hvis
    by_cases hlt : i < n
    · have hps := posn_succ (n := n + 2) HA.out.2 (i := i) (by omega)
      obtain ⟨b1, b2, _⟩ := posn_lt (n := n + 2) HA.out.2 HA.out.1 (i := i) (by omega)
      obtain ⟨d1, d2, d3⟩ := posn_lt (n := n + 2) HA.out.2 HA.out.1 (i := i + 1) (by omega)
      obtain ⟨a, ha⟩ : ∃ a, a = posn (n + 2) a0 i := ⟨_, rfl⟩
      obtain ⟨q, hq⟩ : ∃ q, q = posn (n + 2) a0 (i + 1) := ⟨_, rfl⟩
      rw [← ha] at hps hk b1 b2
      rw [← hq] at hps d1 d2 d3
      have c0 := (hk.clause hc).1
      have f1 := (hk.clause hc).2.2 1
      rw [HV.out, show (s.lit c).length = n + 2 by rw [HL.out, HNN.out]; simp] at c0
      have c1 : wr.cell? ⟨c, 1, none⟩ = some (.int .i64 ((a : Nat) : Int)) := by rw [(hk.clause hc).2.1]; show some (Value.int .i64 ((up s.ax c a c : Nat) : Int)) = _; rw [up_at]
      have e1 : ((a : Nat) : Int) + 1 = (((a + 1 : Nat) : Nat) : Int) := by omega
      have k1 := hk.setAx hc (a + 1)
      have k1 : KAt B v (wr.setCell ⟨c, 1, none⟩ (.int .i64 (((a : Nat) : Int) + 1))) k L { s with ax := up s.ax c (a + 1) } (s.T.elem ·) gap := by
        rw [e1, ← up_up (f := s.ax) (i := c) (x := a)]; exact k1
      have htc : L.tag c ≠ .non := by rw [hk.ti c hc]; nofun
      have p1 := hp.put htc 1 (.int .i64 (((a : Nat) : Int) + 1))
      have g0 := (k1.clause hc).1
      rw [HV.out, show (s.lit c).length = n + 2 by rw [HL.out, HNN.out]; simp] at g0
      have g1 : (wr.setCell ⟨c, 1, none⟩ (.int .i64 (((a : Nat) : Int) + 1))).cell? ⟨c, 1, none⟩ = some (.int .i64 (((a : Nat) : Int) + 1)) := by rw [(k1.clause hc).2.1]; show some (Value.int .i64 ((up s.ax c (a + 1) c : Nat) : Int)) = _; rw [up_at, e1]
      have gf := (k1.clause hc).2.2 1
      have i0 : (0 : Int) ≤ ((i : Nat) : Int) := by omega
      have i1 : ((i : Nat) : Int) < ((n : Nat) : Int) := by omega
      have an : a ≤ n + 2 := by omega
      have HPS := Lib.hid hps
      have HD := Lib.hid (And.intro d1 (And.intro d2 (d3 (by omega))))
      have HK1 := Lib.hid k1
      have HP1 := Lib.hid p1
      have HTC := Lib.hid htc
      have HAQ := Lib.hid (And.intro ha hq)
      clear hk hp hvis hps d1 d2 d3 e1 k1 p1 htc hi ha hq b1 b2
      by_cases hw : a = n + 1
      · have t1 : (((a : Nat) : Int) + 1 == ((n : Nat) : Int) + 2) = true := by simp; omega
        have HW := Lib.hid hw
        clear hw
        go_upto_region 4 with fail
        go_quiet (fail)
        go_upto_region 6 with fail
        have HX : Hid (KAt B v (((wr.setCell ⟨c, 1, none⟩ (.int .i64 (((a : Nat) : Int) + 1))).drewN nq).setCell ⟨c, 1, none⟩ (.int .i64 2)) k L { s with ax := up s.ax c q } (s.T.elem ·) gap ∧ Kept L W (((wr.setCell ⟨c, 1, none⟩ (.int .i64 (((a : Nat) : Int) + 1))).drewN nq).setCell ⟨c, 1, none⟩ (.int .i64 2)) L) := Lib.hid ⟨by
          have := (HK1.out.drewN nq).setAx hc 2
          have e2 : q = 2 := by have := HPS.out; rw [if_pos (by have := HW.out; omega)] at this; exact this
          rw [e2, ← up_up (f := s.ax) (i := c) (x := a + 1)]; exact this, (HP1.out.drewN nq).put HTC.out _ _⟩
        generalize (((wr.setCell ⟨c, 1, none⟩ (.int .i64 (((a : Nat) : Int) + 1))).drewN nq).setCell ⟨c, 1, none⟩ (.int .i64 2)) = w5 at HX ⊢
        clear HW t1 c0 c1 f1 g0 g1 gf HK1 HP1 HPS
        have hx2 := HX.out.1.lits hc (by rw [show ({ s with ax := up s.ax c q } : PS).lit c = s.lit c from rfl, HL.out]; simp)
        obtain ⟨g', cap', hv', hcap', hx', hf', _⟩ := hx2
        rw [HV.out] at hv'
        injection hv' with hg' _ hcap''
        injection hg' with hg' ; injection hg' with hg'
        subst hg' hcap''
        have hql : q - 2 < r.length := by have := HD.out; have := HNN.out; omega
        obtain ⟨m, hm⟩ : ∃ m, r[q - 2]? = some m := ⟨_, List.getElem?_eq_getElem hql⟩
        have hsl : (s.lit c)[q]? = some m := by rw [HL.out, show q = q - 2 + 1 + 1 by have := HD.out; omega]; simpa using hm
        have hml := HLIT.out m (List.mem_of_getElem? hm)
        have y0 := (HX.out.1.clause hc).1
        rw [HV.out, show (s.lit c).length = n + 2 by rw [HL.out, HNN.out]; simp] at y0
        have y1 : w5.cell? ⟨c, 1, none⟩ = some (.int .i64 ((q : Nat) : Int)) := by rw [(HX.out.1.clause hc).2.1]; show some (Value.int .i64 ((up s.ax c q c : Nat) : Int)) = _; rw [up_at]
        have y2 := hx' q m hsl
        have y3 := hx' 1 l (by show (s.lit c)[1]? = _; rw [HL.out]; rfl)
        have z1 := hf' 1
        have zq := hf' q
        have q0 : (0 : Int) ≤ ((q : Nat) : Int) := by omega
        have q1 : ((q : Nat) : Int) < ((n : Nat) : Int) + 2 := by have := HD.out; omega
        have m1 := isL_ne hml
        have m2 : wrap64 (-m) = -m := by unfold wrap64; omega
        have HH : Hid (∀ j, Calls Try.prog 29 #[.pointer (some ⟨k, 0, none⟩), .int .i64 (-m)] (w5.drewN j) fun e w => e = .returned (.bool (s.hol (-m))) ∧ w = w5.drewN j) := Lib.hid fun j => holds_any (HX.out.1.drewN j) hv (isL_neg hml)
        have HM := Lib.hid hm
        have HML := Lib.hid hml
        have HSL := Lib.hid hsl
        clear hm hml hsl hx' hf' hql hcap'
        go_quiet (fail)
        have HX6 : Hid (KAt B v (w5.drewN nq) k L { s with ax := up s.ax c q } (s.T.elem ·) gap ∧ Kept L W (w5.drewN nq) L) := Lib.hid ⟨HX.out.1.drewN nq, HX.out.2.drewN nq⟩
        have HH6 := Lib.hid (HH.out nq)
        have y0 : (w5.drewN nq).cell? ⟨c, 0, none⟩ = some (.slice (some ⟨g, 0, none⟩) (n + 2) cap) := y0
        have y1 : (w5.drewN nq).cell? ⟨c, 1, none⟩ = some (.int .i64 ((q : Nat) : Int)) := y1
        have y3 : (w5.drewN nq).cell? ⟨g, 1, none⟩ = some (.int .i64 l) := y3
        have y2 : (w5.drewN nq).cell? ⟨g, q, none⟩ = some (.int .i64 m) := y2
        have z1 : (w5.drewN nq).frozen? ⟨g, 1, none⟩ = false := z1
        have zq : (w5.drewN nq).frozen? ⟨g, q, none⟩ = false := zq
        generalize w5.drewN nq = w6 at HX6 HH6 y0 y1 y2 y3 z1 zq ⊢
        clear HX HH
        cases hmm : s.hol (-m) with
        | true =>
          rw [hmm] at HH6
          clear y0 y1 y2 y3 z1 zq
          go_wp2_with fail
          refine HH6.out.mono ?_
          rintro e w7 ⟨rfl, rfl⟩
          go_wp2_with fail
          go_roundg (gk - 1)
          case measure => have := HI.out; omega
          case rel =>
            refine ⟨i + 1, rfl, by have := HI.out; omega, by rw [← HAQ.out.2]; exact HX6.out.1, HX6.out.2, fun i' m' h1 h2 h3 => ?_⟩
            by_cases e : i' = i + 1
            · subst e
              rw [← HAQ.out.2, ← HL.out, HSL.out] at h3
              injection h3 with h3
              rw [← h3]; exact hmm
            · exact HVIS.out i' m' h1 (by omega) h3
        | false =>
          rw [hmm] at HH6
          have HMM := Lib.hid hmm
          clear hmm
          have K1 := HX6.out.1.setLit (j := 1) (x := m) hc HV.out
          have K2 := K1.setLit (c := c) (g := g) (cap := cap) (j := q) (x := l) hc (by rw [HV.out]; show _ = Value.slice _ (up s.lit c ((s.lit c).set 1 m) c).length _; rw [up_at, List.length_set])
          have e3 : up (up s.lit c ((s.lit c).set 1 m)) c ((up s.lit c ((s.lit c).set 1 m) c).set q l) = up s.lit c (o :: m :: r.set (q - 2) l) := by
            rw [up_up, up_at, HL.out]
            congr 1
            rw [show q = q - 2 + 1 + 1 by have := HD.out; omega]; rfl
          have K2 : KAt B v ((w6.setCell ⟨g, 1, none⟩ (.int .i64 m)).setCell ⟨g, q, none⟩ (.int .i64 l)) k L { s with lit := up s.lit c (o :: m :: r.set (q - 2) l), ax := up s.ax c q } (s.T.elem ·) gap := by rw [← e3]; exact K2
          have KP := (HX6.out.2.put (g := g) (by rw [HTG.out]; nofun) 1 (.int .i64 m)).put (g := g) (by rw [HTG.out]; nofun) q (.int .i64 l)
          have HF : Hid (∀ j, KAt B v (((w6.setCell ⟨g, 1, none⟩ (.int .i64 m)).setCell ⟨g, q, none⟩ (.int .i64 l)).drewN j) k L { s with lit := up s.lit c (o :: m :: r.set (q - 2) l), ax := up s.ax c q } (s.T.elem ·) gap ∧ Kept L W (((w6.setCell ⟨g, 1, none⟩ (.int .i64 m)).setCell ⟨g, q, none⟩ (.int .i64 l)).drewN j) L) := Lib.hid fun j => ⟨K2.drewN j, KP.drewN j⟩
          clear K1 K2 KP e3
          have hq1 : ¬ q = 1 := by have := HD.out; omega
          have hq2 : ¬ 1 = q := by omega
          go_wp2_with fail
          refine HH6.out.mono ?_
          rintro e w7 ⟨rfl, rfl⟩
          go_upto_region 8 with fail
          go_region
          have HF8 : Hid (KAt B v (((w7.setCell ⟨g, 1, none⟩ (.int .i64 m)).setCell ⟨g, q, none⟩ (.int .i64 l)).drew) k L { s with lit := up s.lit c (o :: m :: r.set (q - 2) l), ax := up s.ax c q } (s.T.elem ·) gap ∧ Kept L W (((w7.setCell ⟨g, 1, none⟩ (.int .i64 m)).setCell ⟨g, q, none⟩ (.int .i64 l)).drew) L) := Lib.hid (HF.out 1)
          generalize ((w7.setCell ⟨g, 1, none⟩ (.int .i64 m)).setCell ⟨g, q, none⟩ (.int .i64 l)).drew = w8 at HF8 ⊢
          clear HF HX6 HH6 y0 y1 y2 y3 z1 zq
          have HWA := Lib.hid (watch_any HF8.out.1 hv (Nat.le_trans HB.out HF8.out.2.size) HML.out c (HG.out m (List.mem_of_getElem? HM.out)) (HN.out _))
          go_wp2_with fail
          refine HWA.out.mono ?_
          rintro e w9 ⟨rfl, L9, hk9, hp9, -⟩
          have H9 := Lib.hid (And.intro hk9 (HF8.out.2.trans hp9))
          clear hk9 hp9 HWA HF8
          go_wp2_with fail
          go_ret
          exact .inr ⟨rfl, q, q - 2, m, L9, by have := HD.out; omega, by have := HD.out; have := HNN.out; omega, HM.out, HMM.out, H9.out.1, H9.out.2⟩
      · have t1 : (((a : Nat) : Int) + 1 == ((n : Nat) : Int) + 2) = false := by simp; omega
        have HW := Lib.hid hw
        clear hw
        go_upto_region 4 with fail
        go_quiet (fail)
        go_upto_region 6 with fail
        have HX : Hid (KAt B v ((wr.setCell ⟨c, 1, none⟩ (.int .i64 (((a : Nat) : Int) + 1))).drewN nq) k L { s with ax := up s.ax c q } (s.T.elem ·) gap ∧ Kept L W ((wr.setCell ⟨c, 1, none⟩ (.int .i64 (((a : Nat) : Int) + 1))).drewN nq) L) := Lib.hid ⟨by
          have e2 : q = a + 1 := by have := HPS.out; rw [if_neg (by have := HW.out; omega)] at this; exact this
          rw [e2]; exact HK1.out.drewN nq, HP1.out.drewN nq⟩
        generalize ((wr.setCell ⟨c, 1, none⟩ (.int .i64 (((a : Nat) : Int) + 1))).drewN nq) = w5 at HX ⊢
        clear HW t1 c0 c1 f1 g0 g1 gf HK1 HP1 HPS
        have hx2 := HX.out.1.lits hc (by rw [show ({ s with ax := up s.ax c q } : PS).lit c = s.lit c from rfl, HL.out]; simp)
        obtain ⟨g', cap', hv', hcap', hx', hf', _⟩ := hx2
        rw [HV.out] at hv'
        injection hv' with hg' _ hcap''
        injection hg' with hg' ; injection hg' with hg'
        subst hg' hcap''
        have hql : q - 2 < r.length := by have := HD.out; have := HNN.out; omega
        obtain ⟨m, hm⟩ : ∃ m, r[q - 2]? = some m := ⟨_, List.getElem?_eq_getElem hql⟩
        have hsl : (s.lit c)[q]? = some m := by rw [HL.out, show q = q - 2 + 1 + 1 by have := HD.out; omega]; simpa using hm
        have hml := HLIT.out m (List.mem_of_getElem? hm)
        have y0 := (HX.out.1.clause hc).1
        rw [HV.out, show (s.lit c).length = n + 2 by rw [HL.out, HNN.out]; simp] at y0
        have y1 : w5.cell? ⟨c, 1, none⟩ = some (.int .i64 ((q : Nat) : Int)) := by rw [(HX.out.1.clause hc).2.1]; show some (Value.int .i64 ((up s.ax c q c : Nat) : Int)) = _; rw [up_at]
        have y2 := hx' q m hsl
        have y3 := hx' 1 l (by show (s.lit c)[1]? = _; rw [HL.out]; rfl)
        have z1 := hf' 1
        have zq := hf' q
        have q0 : (0 : Int) ≤ ((q : Nat) : Int) := by omega
        have q1 : ((q : Nat) : Int) < ((n : Nat) : Int) + 2 := by have := HD.out; omega
        have m1 := isL_ne hml
        have m2 : wrap64 (-m) = -m := by unfold wrap64; omega
        have HH : Hid (∀ j, Calls Try.prog 29 #[.pointer (some ⟨k, 0, none⟩), .int .i64 (-m)] (w5.drewN j) fun e w => e = .returned (.bool (s.hol (-m))) ∧ w = w5.drewN j) := Lib.hid fun j => holds_any (HX.out.1.drewN j) hv (isL_neg hml)
        have HM := Lib.hid hm
        have HML := Lib.hid hml
        have HSL := Lib.hid hsl
        clear hm hml hsl hx' hf' hql hcap'
        go_quiet (fail)
        have HX6 : Hid (KAt B v (w5.drewN nq) k L { s with ax := up s.ax c q } (s.T.elem ·) gap ∧ Kept L W (w5.drewN nq) L) := Lib.hid ⟨HX.out.1.drewN nq, HX.out.2.drewN nq⟩
        have HH6 := Lib.hid (HH.out nq)
        have y0 : (w5.drewN nq).cell? ⟨c, 0, none⟩ = some (.slice (some ⟨g, 0, none⟩) (n + 2) cap) := y0
        have y1 : (w5.drewN nq).cell? ⟨c, 1, none⟩ = some (.int .i64 ((q : Nat) : Int)) := y1
        have y3 : (w5.drewN nq).cell? ⟨g, 1, none⟩ = some (.int .i64 l) := y3
        have y2 : (w5.drewN nq).cell? ⟨g, q, none⟩ = some (.int .i64 m) := y2
        have z1 : (w5.drewN nq).frozen? ⟨g, 1, none⟩ = false := z1
        have zq : (w5.drewN nq).frozen? ⟨g, q, none⟩ = false := zq
        generalize w5.drewN nq = w6 at HX6 HH6 y0 y1 y2 y3 z1 zq ⊢
        clear HX HH
        cases hmm : s.hol (-m) with
        | true =>
          rw [hmm] at HH6
          clear y0 y1 y2 y3 z1 zq
          go_wp2_with fail
          refine HH6.out.mono ?_
          rintro e w7 ⟨rfl, rfl⟩
          go_wp2_with fail
          go_roundg (gk - 1)
          case measure => have := HI.out; omega
          case rel =>
            refine ⟨i + 1, rfl, by have := HI.out; omega, by rw [← HAQ.out.2]; exact HX6.out.1, HX6.out.2, fun i' m' h1 h2 h3 => ?_⟩
            by_cases e : i' = i + 1
            · subst e
              rw [← HAQ.out.2, ← HL.out, HSL.out] at h3
              injection h3 with h3
              rw [← h3]; exact hmm
            · exact HVIS.out i' m' h1 (by omega) h3
        | false =>
          rw [hmm] at HH6
          have HMM := Lib.hid hmm
          clear hmm
          have K1 := HX6.out.1.setLit (j := 1) (x := m) hc HV.out
          have K2 := K1.setLit (c := c) (g := g) (cap := cap) (j := q) (x := l) hc (by rw [HV.out]; show _ = Value.slice _ (up s.lit c ((s.lit c).set 1 m) c).length _; rw [up_at, List.length_set])
          have e3 : up (up s.lit c ((s.lit c).set 1 m)) c ((up s.lit c ((s.lit c).set 1 m) c).set q l) = up s.lit c (o :: m :: r.set (q - 2) l) := by
            rw [up_up, up_at, HL.out]
            congr 1
            rw [show q = q - 2 + 1 + 1 by have := HD.out; omega]; rfl
          have K2 : KAt B v ((w6.setCell ⟨g, 1, none⟩ (.int .i64 m)).setCell ⟨g, q, none⟩ (.int .i64 l)) k L { s with lit := up s.lit c (o :: m :: r.set (q - 2) l), ax := up s.ax c q } (s.T.elem ·) gap := by rw [← e3]; exact K2
          have KP := (HX6.out.2.put (g := g) (by rw [HTG.out]; nofun) 1 (.int .i64 m)).put (g := g) (by rw [HTG.out]; nofun) q (.int .i64 l)
          have HF : Hid (∀ j, KAt B v (((w6.setCell ⟨g, 1, none⟩ (.int .i64 m)).setCell ⟨g, q, none⟩ (.int .i64 l)).drewN j) k L { s with lit := up s.lit c (o :: m :: r.set (q - 2) l), ax := up s.ax c q } (s.T.elem ·) gap ∧ Kept L W (((w6.setCell ⟨g, 1, none⟩ (.int .i64 m)).setCell ⟨g, q, none⟩ (.int .i64 l)).drewN j) L) := Lib.hid fun j => ⟨K2.drewN j, KP.drewN j⟩
          clear K1 K2 KP e3
          have hq1 : ¬ q = 1 := by have := HD.out; omega
          have hq2 : ¬ 1 = q := by omega
          go_wp2_with fail
          refine HH6.out.mono ?_
          rintro e w7 ⟨rfl, rfl⟩
          go_upto_region 8 with fail
          go_region
          have HF8 : Hid (KAt B v (((w7.setCell ⟨g, 1, none⟩ (.int .i64 m)).setCell ⟨g, q, none⟩ (.int .i64 l)).drew) k L { s with lit := up s.lit c (o :: m :: r.set (q - 2) l), ax := up s.ax c q } (s.T.elem ·) gap ∧ Kept L W (((w7.setCell ⟨g, 1, none⟩ (.int .i64 m)).setCell ⟨g, q, none⟩ (.int .i64 l)).drew) L) := Lib.hid (HF.out 1)
          generalize ((w7.setCell ⟨g, 1, none⟩ (.int .i64 m)).setCell ⟨g, q, none⟩ (.int .i64 l)).drew = w8 at HF8 ⊢
          clear HF HX6 HH6 y0 y1 y2 y3 z1 zq
          have HWA := Lib.hid (watch_any HF8.out.1 hv (Nat.le_trans HB.out HF8.out.2.size) HML.out c (HG.out m (List.mem_of_getElem? HM.out)) (HN.out _))
          go_wp2_with fail
          refine HWA.out.mono ?_
          rintro e w9 ⟨rfl, L9, hk9, hp9, -⟩
          have H9 := Lib.hid (And.intro hk9 (HF8.out.2.trans hp9))
          clear hk9 hp9 HWA HF8
          go_wp2_with fail
          go_ret
          exact .inr ⟨rfl, q, q - 2, m, L9, by have := HD.out; omega, by have := HD.out; have := HNN.out; omega, HM.out, HMM.out, H9.out.1, H9.out.2⟩
    · have p1 : decide (((i : Nat) : Int) < ((n : Nat) : Int)) = false := decide_eq_false (by omega)
      obtain rfl : i = n := by omega
      have HK2 := Lib.hid hk
      clear hk hp hvis hi
      go_wp2_with fail
      go_ret
      obtain ⟨d1, d2, _⟩ := posn_lt (n := i + 2) HA.out.2 HA.out.1 (i := i) (by omega)
      refine .inl ⟨rfl, posn (i + 2) a0 i, d1, by rw [← HNN.out]; exact d2, HK2.out, HP.out, fun m hm => ?_⟩
      obtain ⟨j, hj⟩ := List.getElem?_of_mem hm
      have hjl := (List.getElem?_eq_some_iff.1 hj).1
      obtain ⟨i', x1, x2, x3⟩ := posn_all (n := i + 2) (q := j + 2) HA.out.2 HA.out.1 (by omega) (by have := HNN.out; omega)
      exact HVIS.out i' m x1 (by omega) (by rw [x3]; simpa using hj)
end Rw
end Go.Proofs.Ytmgkgbhkaoflhaa
