/-
  HeapOrder, walked.
-/
import Derived.Test.YtdajnmlpghgeeaaHpPlays
namespace Go.Proofs.Ytdajnmlpghgeeaa
open Go.RowKit
namespace Hp
set_option maxHeartbeats 3200000
set_option maxRecDepth 100000

/-- A heap in memory, from block B on. -/
def One (B : Nat) (w : World) (p n : Nat) : Prop := ∃ (sb tb qb m : Nat) (S T P : Nat → Nat), HAt w p sb tb qb n m S T P ∧ B ≤ p ∧ B ≤ sb ∧ B ≤ tb ∧ B ≤ qb
theorem One.same {B p n : Nat} {w w' : World} (h : One B w p n) (o : Only [] w w') : One B w' p n := by
  obtain ⟨sb, tb, qb, m, S, T, P, h, hb⟩ := h
  exact ⟨sb, tb, qb, m, S, T, P, h.only o (by simp) (by simp) (by simp) (by simp), hb⟩
theorem Only.low {B : Nat} {w w' : World} {p sb tb qb : Nat} (o : Only [p, sb, tb, qb] w w') (hb : B ≤ p ∧ B ≤ sb ∧ B ≤ tb ∧ B ≤ qb) (hB : B ≤ w.heap.size) : Below B w w' := o.below (by simp; omega) hB
theorem one_bump {B p n : Nat} {w : World} (h : One B w p n) (hB : B ≤ w.heap.size) (v : Int) (y : Nat) : Calls Try.prog 18 #[.pointer (some ⟨p, 0, none⟩), .int .i64 v, .float .f64 y] w fun e w' => (∃ c, e = .returned (.int .i64 c)) ∧ One B w' p n ∧ Below B w w' := by
  obtain ⟨sb, tb, qb, m, S, T, P, h, hb⟩ := h
  cases hv : isV n v with
  | false =>
    refine (bump_no h hv y).mono ?_
    rintro e w' ⟨rfl, rfl⟩
    exact ⟨⟨_, rfl⟩, ⟨sb, tb, qb, m, S, T, P, h, hb⟩, Below.refl _ _⟩
  | true =>
    obtain ⟨k, rfl, k1, k2⟩ := isV_at hv
    refine (bump_yes h k1 k2 y).mono ?_
    rintro e w' ⟨rfl, r, T2, Q2, _, g, _, go⟩
    exact ⟨⟨_, rfl⟩, ⟨sb, tb, qb, m, _, T2, Q2, g, hb⟩, go.low hb hB⟩
theorem one_put {B p n : Nat} {w : World} (h : One B w p n) (hB : B ≤ w.heap.size) (v : Int) : Calls Try.prog 21 #[.pointer (some ⟨p, 0, none⟩), .int .i64 v] w fun e w' => (∃ c, e = .returned (.int .i64 c)) ∧ One B w' p n ∧ Below B w w' := by
  obtain ⟨sb, tb, qb, m, S, T, P, h, hb⟩ := h
  cases hv : isV n v with
  | false =>
    refine (put_no h hv).mono ?_
    rintro e w' ⟨rfl, rfl⟩
    exact ⟨⟨_, rfl⟩, ⟨sb, tb, qb, m, S, T, P, h, hb⟩, Below.refl _ _⟩
  | true =>
    obtain ⟨k, rfl, k1, k2⟩ := isV_at hv
    by_cases hp : P k = 0
    · refine (put_yes h k1 k2 hp).mono ?_
      rintro e w' ⟨rfl, T2, Q2, g, _, _, go⟩
      exact ⟨⟨_, rfl⟩, ⟨sb, tb, qb, m + 1, _, T2, Q2, g, hb⟩, go.low hb hB⟩
    · refine (put_in h k1 k2 hp).mono ?_
      rintro e w' ⟨rfl, rfl⟩
      exact ⟨⟨_, rfl⟩, ⟨sb, tb, qb, m, S, T, P, h, hb⟩, Below.refl _ _⟩
theorem one_scale {B p n : Nat} {w : World} (h : One B w p n) (hB : B ≤ w.heap.size) (y : Nat) : Calls Try.prog 19 #[.pointer (some ⟨p, 0, none⟩), .float .f64 y] w fun e w' => (∃ c, e = .returned (.int .i64 c)) ∧ One B w' p n ∧ Below B w w' := by
  obtain ⟨sb, tb, qb, m, S, T, P, h, hb⟩ := h
  refine (scale_any h y).mono ?_
  rintro e w' ⟨rfl, U, T2, Q2, _, g, _, go⟩
  exact ⟨⟨_, rfl⟩, ⟨sb, tb, qb, m, _, T2, Q2, g, hb⟩, go.low hb hB⟩
theorem one_pop {B p n : Nat} {w : World} (h : One B w p n) (hB : B ≤ w.heap.size) : Calls Try.prog 20 #[.pointer (some ⟨p, 0, none⟩)] w fun e w' => (∃ c d, e = .returned (.tuple #[.int .i64 c, .int .i64 d])) ∧ One B w' p n ∧ Below B w w' := by
  obtain ⟨sb, tb, qb, m, S, T, P, h, hb⟩ := h
  cases m with
  | zero =>
    refine (pop_none h).mono ?_
    rintro e w' ⟨rfl, rfl⟩
    exact ⟨⟨_, _, rfl⟩, ⟨sb, tb, qb, 0, S, T, P, h, hb⟩, Below.refl _ _⟩
  | succ m =>
    refine (pop_yes h).mono ?_
    rintro e w' ⟨rfl, T2, Q2, g, _, _, go⟩
    exact ⟨⟨_, _, rfl⟩, ⟨sb, tb, qb, m, _, T2, Q2, g, hb⟩, go.low hb hB⟩
theorem order_none {al : Option Addr} {len cl : Nat} {n : Int} (h : n < 0) (W : World) : Calls Try.prog 4 #[.int .i64 n, .slice al len cl] W fun e w => e = .returned (.bool true) ∧ Below W.heap.size W w := by
  have g1 : n ≤ 60 := by omega
  have g2 : decide (n < 0) = true := decide_eq_true h
  have g3 : min n 60 = n := by omega
  have HP := Lib.hid (fun w => new_no (.inl h) w)
  go_enter Try.func4, Try.ntmps4
  go_wp2_with fail
  refine (HP.out _).mono ?_
  rintro e W ⟨rfl, rfl⟩
  go_wp2_with fail
  refine (lives_any _).mono ?_
  rintro e w ⟨rfl, hb⟩
  go_wp2_with fail
  go_ret
  exact ⟨rfl, hb⟩
theorem order_few {al : Option Addr} {X : List Ac} {len cl : Nat} {n : Nat} (hn : n ≤ 60) {W : World} (hX : ActsAt W al X) (hlen : len = X.length) : Calls Try.prog 4 #[.int .i64 ((n : Nat) : Int), .slice al len cl] W fun e w => e = .returned (.bool true) ∧ Below W.heap.size W w := by
  have a1 : min ((n : Nat) : Int) 60 = ((n : Nat) : Int) := by omega
  have a2 : ((n : Nat) : Int) ≤ 60 := by omega
  have HX := Lib.hid hX
  have HL := Lib.hid hlen
  clear hX hlen
  go_enter Try.func4, Try.ntmps4
  go_wp2_with fail
  refine (new_yes (n := n) (by omega) W).mono ?_
  rintro e w1 ⟨p, sb, tb, qb, T, P, rfl, h, hin, hbl, hp⟩
  have H2 : Hid (One W.heap.size w1 p n ∧ Below W.heap.size W w1) := Lib.hid ⟨⟨sb, tb, qb, n, _, T, P, h, hp⟩, hbl⟩
  clear h hin hbl hp
  go_wp2_with fail
  go_loopg [7] (min len 60) (fun gk v7 wr => ∃ i : Nat, v7 = .int .i64 ((i : Nat) : Int) ∧ i + gk = min len 60 ∧ Hid (One W.heap.size wr p n ∧ Below W.heap.size W wr))
  case atStart => exact ⟨0, rfl, by omega, H2⟩
  case round =>
    obtain ⟨i, rfl, hgk, HR⟩ := hrel
    clear H2
    have HG := Lib.hid hgk
    have i0 : (0 : Int) ≤ ((i : Nat) : Int) := by omega
    by_cases hlt : i < len ∧ i < 60
    · have g1 : decide (((i : Nat) : Int) < ((len : Nat) : Int)) = true := decide_eq_true (by omega)
      have g2 : ((i : Nat) : Int) < ((len : Nat) : Int) := by omega
      have g3 : decide (((i : Nat) : Int) < 60) = true := decide_eq_true (by omega)
      have g4 : ((i : Nat) : Int) < 60 := by omega
      have s1 := step_i (j := i) (by omega)
      clear hgk
      obtain ⟨x, hx⟩ : ∃ x, X[i]? = some x := ⟨_, List.getElem?_eq_getElem (by rw [← HL.out]; exact hlt.1)⟩
      have hcs : ∃ bl ol, al = some ⟨bl, ol, none⟩ ∧ bl < W.heap.size ∧ wr.cell? ⟨bl, ol + i * 3, none⟩ = some (.int .i64 x.d) ∧ wr.cell? ⟨bl, ol + i * 3 + 1, none⟩ = some (.int .i64 x.v) ∧ wr.cell? ⟨bl, ol + i * 3 + 2, none⟩ = some (.float .f64 x.y) := by
        rcases HX.out with h0 | ⟨bl, ol, rfl, hlt, hc⟩
        · rw [h0] at hx; cases hx
        · obtain ⟨c1, c2, c3⟩ := hc i x hx
          exact ⟨bl, ol, rfl, hlt, (HR.out.2.cell (p := ⟨bl, _, none⟩) hlt).trans c1, (HR.out.2.cell (p := ⟨bl, _, none⟩) hlt).trans c2, (HR.out.2.cell (p := ⟨bl, _, none⟩) hlt).trans c3⟩
      obtain ⟨bl, ol, hal, hbl, c1, c2, c3⟩ := hcs
      have HBL := Lib.hid hbl
      clear hbl
      obtain ⟨d, v, y⟩ := x
      subst hal
      clear hx
      have HBU := Lib.hid (fun w' (o : Only [] wr w') (hs : wr.heap.size ≤ w'.heap.size) => one_bump (HR.out.1.same o) (Nat.le_trans HR.out.2.size hs) v y)
      have HSC := Lib.hid (one_scale HR.out.1 HR.out.2.size y)
      have HPO := Lib.hid (one_pop HR.out.1 HR.out.2.size)
      have HPU := Lib.hid (one_put HR.out.1 HR.out.2.size v)
      by_cases h0 : d = 0
      · subst h0
        go_wp2_with fail
        go_region_held3 (fun w' => w'.cell? ⟨bl, ol + i * 3 + 1, none⟩ = some (.int .i64 v) ∧ w'.cell? ⟨bl, ol + i * 3 + 2, none⟩ = some (.float .f64 y))
          (first | (refine ⟨?_, ?_⟩ <;> assumption) | (go_keep; done))
          (first | (go_at_call 18; refine (HBU.out _ ?_ ?_).mono ?_; exact ⟨rfl, rfl, rfl, Nat.le_refl _, fun _ _ _ => rfl⟩; exact Nat.le_refl _; rintro e w3 ⟨⟨c, rfl⟩, hb3, hl3⟩; have g1 := (hl3.cell (p := ⟨bl, ol + i * 3 + 1, none⟩) HBL.out).trans c2; have g2 := (hl3.cell (p := ⟨bl, ol + i * 3 + 2, none⟩) HBL.out).trans c3))
        all_goals
          have hl3 : Below W.heap.size wr w3 := ⟨hl3.os, hl3.tape, hl3.output, hl3.size, hl3.block⟩
          have HB3 := Lib.hid hb3
          have HL3 := Lib.hid (HR.out.2.trans hl3)
          clear hb3 hl3
          go_wp2_with fail
          go_roundg (gk - 1)
          case measure => have := HG.out; omega
          case rel => exact ⟨i + 1, rfl, by have := HG.out; omega, Lib.hid ⟨HB3.out, HL3.out⟩⟩
      · by_cases h1 : d = 1
        · subst h1
          go_wp2_with fail
          refine HSC.out.mono ?_
          rintro e w3 ⟨⟨c, rfl⟩, hb3, hl3⟩
          have HB3 := Lib.hid hb3
          have HL3 := Lib.hid (HR.out.2.trans hl3)
          clear hb3 hl3
          go_wp2_with fail
          go_roundg (gk - 1)
          case measure => have := HG.out; omega
          case rel => exact ⟨i + 1, rfl, by have := HG.out; omega, Lib.hid ⟨HB3.out, HL3.out⟩⟩
        · by_cases h2 : d = 2
          · subst h2
            go_wp2_with fail
            refine HPO.out.mono ?_
            rintro e w3 ⟨⟨c, f, rfl⟩, hb3, hl3⟩
            have HB3 := Lib.hid hb3
            have HL3 := Lib.hid (HR.out.2.trans hl3)
            clear hb3 hl3
            go_wp2_with fail
            go_roundg (gk - 1)
            case measure => have := HG.out; omega
            case rel => exact ⟨i + 1, rfl, by have := HG.out; omega, Lib.hid ⟨HB3.out, HL3.out⟩⟩
          · by_cases h3 : d = 3
            · subst h3
              go_wp2_with fail
              refine HPU.out.mono ?_
              rintro e w3 ⟨⟨c, rfl⟩, hb3, hl3⟩
              have HB3 := Lib.hid hb3
              have HL3 := Lib.hid (HR.out.2.trans hl3)
              clear hb3 hl3
              go_wp2_with fail
              go_roundg (gk - 1)
              case measure => have := HG.out; omega
              case rel => exact ⟨i + 1, rfl, by have := HG.out; omega, Lib.hid ⟨HB3.out, HL3.out⟩⟩
            · have e0 : (d == 0) = false := by simpa using h0
              have e1 : (d == 1) = false := by simpa using h1
              have e2 : (d == 2) = false := by simpa using h2
              have e3 : (d == 3) = false := by simpa using h3
              clear h0 h1 h2 h3
              go_wp2_with fail
              go_roundg (gk - 1)
              case measure => have := HG.out; omega
              case rel => exact ⟨i + 1, rfl, by have := HG.out; omega, HR⟩
    · have gA : (¬ i < len) ∨ (i < len ∧ ¬ i < 60) := by omega
      obtain ⟨wA, hwA⟩ : ∃ wA, wA = wr := ⟨_, rfl⟩
      subst hwA
      obtain ⟨gA1, hgA⟩ : ∃ gA, gA = gk := ⟨_, rfl⟩
      subst hgA
      have hbo := HR.out.1
      obtain ⟨sb3, tb3, qb3, m3, S3, T3, P3, h3, hb3⟩ := hbo
      have HLN := Lib.hid (len_any h3.h)
      have hmb := h3.h.le
      have H3 : Hid (HAt wA p sb3 tb3 qb3 n m3 S3 T3 P3 ∧ Below W.heap.size W wA) := Lib.hid ⟨h3, HR.out.2⟩
      have HBB := Lib.hid hb3
      clear h3 hlt hb3
      rcases gA with hA | ⟨hA, hA2⟩
      · have g1 : decide (((i : Nat) : Int) < ((len : Nat) : Int)) = false := decide_eq_false (by omega)
        have g2 : ¬ ((i : Nat) : Int) < ((len : Nat) : Int) := by omega
        clear hgk
        go_wp2_with fail
        refine HLN.out.mono ?_
        rintro e wA ⟨rfl, rfl⟩
        go_wp2_with fail
        go_loopg [9, 10] m3 (fun gk v9 v10 wr => ∃ (k last : Nat) (T P : Nat → Nat), v9 = .int .i64 ((last : Nat) : Int) ∧ v10 = .int .i64 ((k : Nat) : Int) ∧ k + gk = m3 ∧ last ≤ n ∧ Hid (HAt wr p sb3 tb3 qb3 n gk S3 T P ∧ Below W.heap.size W wr ∧ (last = 0 ∨ ∀ u, 1 ≤ u → u ≤ n → P u ≠ 0 → aheadF S3 last u = true)))
        case atStart => exact ⟨0, 0, T3, P3, rfl, rfl, by omega, by omega, Lib.hid ⟨H3.out.1, H3.out.2, .inl rfl⟩⟩
        case round =>
          obtain ⟨k, last, T4, P4, rfl, rfl, hkg, hln, H4⟩ := hrel
          have HK := Lib.hid hkg
          clear H3
          have k0 : (0 : Int) ≤ ((k : Nat) : Int) := by omega
          have l0 : (0 : Int) ≤ ((last : Nat) : Int) := by omega
          cases gk with
          | zero =>
            have t1 : decide (((k : Nat) : Int) < ((m3 : Nat) : Int)) = false := decide_eq_false (by omega)
            have t2 : ¬ ((k : Nat) : Int) < ((m3 : Nat) : Int) := by omega
            have HPN := Lib.hid (pop_none H4.out.1)
            clear hkg
            go_wp2_with fail
            refine HPN.out.mono ?_
            rintro e wr ⟨rfl, rfl⟩
            go_wp2_with fail
            refine (lives_any _).mono ?_
            rintro e w6 ⟨rfl, hb6⟩
            go_wp2_with fail
            go_ret
            exact ⟨rfl, H4.out.2.1.trans (hb6.mono H4.out.2.1.size)⟩
          | succ gk =>
            have t1 : decide (((k : Nat) : Int) < ((m3 : Nat) : Int)) = true := decide_eq_true (by omega)
            have t2 : ((k : Nat) : Int) < ((m3 : Nat) : Int) := by omega
            have s2 := step_i (j := k) (by omega)
            have HPY := Lib.hid (pop_yes H4.out.1)
            have hv := H4.out.1.fit.t 1 (by omega) (by omega)
            have HV : Hid (∀ u, 1 ≤ u → u ≤ n → P4 u ≠ 0 → u ≠ T4 1 → aheadF S3 (T4 1) u = true) := Lib.hid (fun u a b c d => first_of H4.out.1.ord H4.out.1.fit a b c d)
            have HAH : Hid (last = 0 ∨ aheadF S3 last (T4 1) = true) := Lib.hid (H4.out.2.2.imp id fun x => x _ hv.1 hv.2.1 (by rw [hv.2.2]; omega))
            obtain ⟨v, hvv⟩ : ∃ v, v = T4 1 := ⟨_, rfl⟩
            rw [← hvv] at HPY hv HV HAH
            have hv1 := hv.1
            have hv2 := hv.2.1
            clear hkg hv hvv
            go_wp2_with fail
            refine HPY.out.mono ?_
            rintro e w5 ⟨rfl, T5, Q5, g, gz, gq, go⟩
            have HHS := Lib.hid (has_any g.h ((v : Nat) : Int))
            have hin : inF n Q5 ((v : Nat) : Int) = false := by
              unfold inF
              rw [isV_of hv1 hv2, Int.toNat_natCast, gz]; rfl
            rw [hin] at HHS
            have HS1 := Lib.hid (score_any g.h ((last : Nat) : Int))
            have HS2 := Lib.hid (score_any g.h ((v : Nat) : Int))
            have hs2 : scF n S3 ((v : Nat) : Int) = S3 v := by
              unfold scF
              rw [isV_of hv1 hv2, Int.toNat_natCast, if_pos rfl]
            rw [hs2] at HS2
            have H5 : Hid (HAt w5 p sb3 tb3 qb3 n gk S3 T5 Q5 ∧ Below W.heap.size W w5 ∧ (v = 0 ∨ ∀ u, 1 ≤ u → u ≤ n → Q5 u ≠ 0 → aheadF S3 v u = true)) := Lib.hid ⟨g, H4.out.2.1.trans (go.low HBB.out H4.out.2.1.size), .inr fun u a b c => HV.out u a b (fun x => c (((gq u a b (fun e => c (by rw [e]; exact gz))).1 x))) (fun e => c (by rw [e]; exact gz))⟩
            clear g gz gq go hin hs2 HV
            by_cases hl : last = 0
            · subst hl
              clear HAH HS1 HS2
              go_wp2_with fail
              refine HHS.out.mono ?_
              rintro e w5 ⟨rfl, rfl⟩
              go_wp2_with fail
              go_roundg gk
              case measure => omega
              case rel => exact ⟨k + 1, v, T5, Q5, rfl, rfl, by have := HK.out; omega, hv2, H5⟩
            · have l1 : decide (0 < ((last : Nat) : Int)) = true := decide_eq_true (by omega)
              have l2 : 0 < ((last : Nat) : Int) := by omega
              have hs1 : scF n S3 ((last : Nat) : Int) = S3 last := by
                unfold scF
                rw [isV_of (by omega) hln, Int.toNat_natCast, if_pos rfl]
              rw [hs1] at HS1
              have hah := HAH.out.resolve_left hl
              have hba : aboveF (S3 v) (S3 last) = false := by
                have := ahead_asym hah
                unfold aheadF at this
                cases h9 : aboveF (S3 v) (S3 last) with
                | false => rfl
                | true => rw [h9] at this; cases this
              have HA1 := Lib.hid (fun w => above_any (S3 v) (S3 last) w)
              rw [hba] at HA1
              have HA2 := Lib.hid (fun w => above_any (S3 last) (S3 v) w)
              cases hab : aboveF (S3 last) (S3 v) with
              | true =>
                rw [hab] at HA2
                clear hab hah hba hs1 HAH
                go_wp2_with fail
                refine HHS.out.mono ?_
                rintro e w5 ⟨rfl, rfl⟩
                go_wp2_with fail
                refine HS1.out.mono ?_
                rintro e w5 ⟨rfl, rfl⟩
                go_wp2_with fail
                refine HS2.out.mono ?_
                rintro e w5 ⟨rfl, rfl⟩
                go_wp2_with fail
                refine (HA1.out _).mono ?_
                rintro e w5 ⟨rfl, rfl⟩
                go_wp2_with fail
                refine (HA2.out _).mono ?_
                rintro e w5 ⟨rfl, rfl⟩
                go_wp2_with fail
                go_roundg gk
                case measure => omega
                case rel => exact ⟨k + 1, v, T5, Q5, rfl, rfl, by have := HK.out; omega, hv2, H5⟩
              | false =>
                have hlv : last < v := by
                  unfold aheadF at hah
                  rw [hab] at hah
                  simp at hah
                  exact hah.1
                have l3 : decide (((v : Nat) : Int) < ((last : Nat) : Int)) = false := decide_eq_false (by omega)
                have l4 : ¬ ((v : Nat) : Int) < ((last : Nat) : Int) := by omega
                rw [hab] at HA2
                clear hab hah hba hs1 HAH
                go_wp2_with fail
                refine HHS.out.mono ?_
                rintro e w5 ⟨rfl, rfl⟩
                go_wp2_with fail
                refine HS1.out.mono ?_
                rintro e w5 ⟨rfl, rfl⟩
                go_wp2_with fail
                refine HS2.out.mono ?_
                rintro e w5 ⟨rfl, rfl⟩
                go_wp2_with fail
                refine (HA1.out _).mono ?_
                rintro e w5 ⟨rfl, rfl⟩
                go_wp2_with fail
                refine (HA2.out _).mono ?_
                rintro e w5 ⟨rfl, rfl⟩
                go_wp2_with fail
                go_roundg gk
                case measure => omega
                case rel => exact ⟨k + 1, v, T5, Q5, rfl, rfl, by have := HK.out; omega, hv2, H5⟩
      · have g1 : decide (((i : Nat) : Int) < ((len : Nat) : Int)) = true := decide_eq_true (by omega)
        have g2 : ((i : Nat) : Int) < ((len : Nat) : Int) := by omega
        have g3 : decide (((i : Nat) : Int) < 60) = false := decide_eq_false (by omega)
        have g4 : ¬ ((i : Nat) : Int) < 60 := by omega
        clear hgk
        go_wp2_with fail
        refine HLN.out.mono ?_
        rintro e wA ⟨rfl, rfl⟩
        go_wp2_with fail
        go_loopg [9, 10] m3 (fun gk v9 v10 wr => ∃ (k last : Nat) (T P : Nat → Nat), v9 = .int .i64 ((last : Nat) : Int) ∧ v10 = .int .i64 ((k : Nat) : Int) ∧ k + gk = m3 ∧ last ≤ n ∧ Hid (HAt wr p sb3 tb3 qb3 n gk S3 T P ∧ Below W.heap.size W wr ∧ (last = 0 ∨ ∀ u, 1 ≤ u → u ≤ n → P u ≠ 0 → aheadF S3 last u = true)))
        case atStart => exact ⟨0, 0, T3, P3, rfl, rfl, by omega, by omega, Lib.hid ⟨H3.out.1, H3.out.2, .inl rfl⟩⟩
        case round =>
          obtain ⟨k, last, T4, P4, rfl, rfl, hkg, hln, H4⟩ := hrel
          have HK := Lib.hid hkg
          clear H3
          have k0 : (0 : Int) ≤ ((k : Nat) : Int) := by omega
          have l0 : (0 : Int) ≤ ((last : Nat) : Int) := by omega
          cases gk with
          | zero =>
            have t1 : decide (((k : Nat) : Int) < ((m3 : Nat) : Int)) = false := decide_eq_false (by omega)
            have t2 : ¬ ((k : Nat) : Int) < ((m3 : Nat) : Int) := by omega
            have HPN := Lib.hid (pop_none H4.out.1)
            clear hkg
            go_wp2_with fail
            refine HPN.out.mono ?_
            rintro e wr ⟨rfl, rfl⟩
            go_wp2_with fail
            refine (lives_any _).mono ?_
            rintro e w6 ⟨rfl, hb6⟩
            go_wp2_with fail
            go_ret
            exact ⟨rfl, H4.out.2.1.trans (hb6.mono H4.out.2.1.size)⟩
          | succ gk =>
            have t1 : decide (((k : Nat) : Int) < ((m3 : Nat) : Int)) = true := decide_eq_true (by omega)
            have t2 : ((k : Nat) : Int) < ((m3 : Nat) : Int) := by omega
            have s2 := step_i (j := k) (by omega)
            have HPY := Lib.hid (pop_yes H4.out.1)
            have hv := H4.out.1.fit.t 1 (by omega) (by omega)
            have HV : Hid (∀ u, 1 ≤ u → u ≤ n → P4 u ≠ 0 → u ≠ T4 1 → aheadF S3 (T4 1) u = true) := Lib.hid (fun u a b c d => first_of H4.out.1.ord H4.out.1.fit a b c d)
            have HAH : Hid (last = 0 ∨ aheadF S3 last (T4 1) = true) := Lib.hid (H4.out.2.2.imp id fun x => x _ hv.1 hv.2.1 (by rw [hv.2.2]; omega))
            obtain ⟨v, hvv⟩ : ∃ v, v = T4 1 := ⟨_, rfl⟩
            rw [← hvv] at HPY hv HV HAH
            have hv1 := hv.1
            have hv2 := hv.2.1
            clear hkg hv hvv
            go_wp2_with fail
            refine HPY.out.mono ?_
            rintro e w5 ⟨rfl, T5, Q5, g, gz, gq, go⟩
            have HHS := Lib.hid (has_any g.h ((v : Nat) : Int))
            have hin : inF n Q5 ((v : Nat) : Int) = false := by
              unfold inF
              rw [isV_of hv1 hv2, Int.toNat_natCast, gz]; rfl
            rw [hin] at HHS
            have HS1 := Lib.hid (score_any g.h ((last : Nat) : Int))
            have HS2 := Lib.hid (score_any g.h ((v : Nat) : Int))
            have hs2 : scF n S3 ((v : Nat) : Int) = S3 v := by
              unfold scF
              rw [isV_of hv1 hv2, Int.toNat_natCast, if_pos rfl]
            rw [hs2] at HS2
            have H5 : Hid (HAt w5 p sb3 tb3 qb3 n gk S3 T5 Q5 ∧ Below W.heap.size W w5 ∧ (v = 0 ∨ ∀ u, 1 ≤ u → u ≤ n → Q5 u ≠ 0 → aheadF S3 v u = true)) := Lib.hid ⟨g, H4.out.2.1.trans (go.low HBB.out H4.out.2.1.size), .inr fun u a b c => HV.out u a b (fun x => c (((gq u a b (fun e => c (by rw [e]; exact gz))).1 x))) (fun e => c (by rw [e]; exact gz))⟩
            clear g gz gq go hin hs2 HV
            by_cases hl : last = 0
            · subst hl
              clear HAH HS1 HS2
              go_wp2_with fail
              refine HHS.out.mono ?_
              rintro e w5 ⟨rfl, rfl⟩
              go_wp2_with fail
              go_roundg gk
              case measure => omega
              case rel => exact ⟨k + 1, v, T5, Q5, rfl, rfl, by have := HK.out; omega, hv2, H5⟩
            · have l1 : decide (0 < ((last : Nat) : Int)) = true := decide_eq_true (by omega)
              have l2 : 0 < ((last : Nat) : Int) := by omega
              have hs1 : scF n S3 ((last : Nat) : Int) = S3 last := by
                unfold scF
                rw [isV_of (by omega) hln, Int.toNat_natCast, if_pos rfl]
              rw [hs1] at HS1
              have hah := HAH.out.resolve_left hl
              have hba : aboveF (S3 v) (S3 last) = false := by
                have := ahead_asym hah
                unfold aheadF at this
                cases h9 : aboveF (S3 v) (S3 last) with
                | false => rfl
                | true => rw [h9] at this; cases this
              have HA1 := Lib.hid (fun w => above_any (S3 v) (S3 last) w)
              rw [hba] at HA1
              have HA2 := Lib.hid (fun w => above_any (S3 last) (S3 v) w)
              cases hab : aboveF (S3 last) (S3 v) with
              | true =>
                rw [hab] at HA2
                clear hab hah hba hs1 HAH
                go_wp2_with fail
                refine HHS.out.mono ?_
                rintro e w5 ⟨rfl, rfl⟩
                go_wp2_with fail
                refine HS1.out.mono ?_
                rintro e w5 ⟨rfl, rfl⟩
                go_wp2_with fail
                refine HS2.out.mono ?_
                rintro e w5 ⟨rfl, rfl⟩
                go_wp2_with fail
                refine (HA1.out _).mono ?_
                rintro e w5 ⟨rfl, rfl⟩
                go_wp2_with fail
                refine (HA2.out _).mono ?_
                rintro e w5 ⟨rfl, rfl⟩
                go_wp2_with fail
                go_roundg gk
                case measure => omega
                case rel => exact ⟨k + 1, v, T5, Q5, rfl, rfl, by have := HK.out; omega, hv2, H5⟩
              | false =>
                have hlv : last < v := by
                  unfold aheadF at hah
                  rw [hab] at hah
                  simp at hah
                  exact hah.1
                have l3 : decide (((v : Nat) : Int) < ((last : Nat) : Int)) = false := decide_eq_false (by omega)
                have l4 : ¬ ((v : Nat) : Int) < ((last : Nat) : Int) := by omega
                rw [hab] at HA2
                clear hab hah hba hs1 HAH
                go_wp2_with fail
                refine HHS.out.mono ?_
                rintro e w5 ⟨rfl, rfl⟩
                go_wp2_with fail
                refine HS1.out.mono ?_
                rintro e w5 ⟨rfl, rfl⟩
                go_wp2_with fail
                refine HS2.out.mono ?_
                rintro e w5 ⟨rfl, rfl⟩
                go_wp2_with fail
                refine (HA1.out _).mono ?_
                rintro e w5 ⟨rfl, rfl⟩
                go_wp2_with fail
                refine (HA2.out _).mono ?_
                rintro e w5 ⟨rfl, rfl⟩
                go_wp2_with fail
                go_roundg gk
                case measure => omega
                case rel => exact ⟨k + 1, v, T5, Q5, rfl, rfl, by have := HK.out; omega, hv2, H5⟩
theorem order_many {al : Option Addr} {X : List Ac} {len cl : Nat} {n : Int} (hn : 60 < n) {W : World} (hX : ActsAt W al X) (hlen : len = X.length) : Calls Try.prog 4 #[.int .i64 n, .slice al len cl] W fun e w => e = .returned (.bool true) ∧ Below W.heap.size W w := by
  have a1 : min n 60 = 60 := by omega
  have a2 : ¬ n ≤ 60 := by omega
  have HX := Lib.hid hX
  have HL := Lib.hid hlen
  clear hX hlen
  go_enter Try.func4, Try.ntmps4
  go_wp2_with fail
  refine (new_yes (n := 60) (by omega) W).mono ?_
  rintro e w1 ⟨p, sb, tb, qb, T, P, rfl, h, hin, hbl, hp⟩
  have H2 : Hid (One W.heap.size w1 p 60 ∧ Below W.heap.size W w1) := Lib.hid ⟨⟨sb, tb, qb, 60, _, T, P, h, hp⟩, hbl⟩
  clear h hin hbl hp
  go_wp2_with fail
  go_loopg [7] (min len 60) (fun gk v7 wr => ∃ i : Nat, v7 = .int .i64 ((i : Nat) : Int) ∧ i + gk = min len 60 ∧ Hid (One W.heap.size wr p 60 ∧ Below W.heap.size W wr))
  case atStart => exact ⟨0, rfl, by omega, H2⟩
  case round =>
    obtain ⟨i, rfl, hgk, HR⟩ := hrel
    clear H2
    have HG := Lib.hid hgk
    have i0 : (0 : Int) ≤ ((i : Nat) : Int) := by omega
    by_cases hlt : i < len ∧ i < 60
    · have g1 : decide (((i : Nat) : Int) < ((len : Nat) : Int)) = true := decide_eq_true (by omega)
      have g2 : ((i : Nat) : Int) < ((len : Nat) : Int) := by omega
      have g3 : decide (((i : Nat) : Int) < 60) = true := decide_eq_true (by omega)
      have g4 : ((i : Nat) : Int) < 60 := by omega
      have s1 := step_i (j := i) (by omega)
      clear hgk
      obtain ⟨x, hx⟩ : ∃ x, X[i]? = some x := ⟨_, List.getElem?_eq_getElem (by rw [← HL.out]; exact hlt.1)⟩
      have hcs : ∃ bl ol, al = some ⟨bl, ol, none⟩ ∧ bl < W.heap.size ∧ wr.cell? ⟨bl, ol + i * 3, none⟩ = some (.int .i64 x.d) ∧ wr.cell? ⟨bl, ol + i * 3 + 1, none⟩ = some (.int .i64 x.v) ∧ wr.cell? ⟨bl, ol + i * 3 + 2, none⟩ = some (.float .f64 x.y) := by
        rcases HX.out with h0 | ⟨bl, ol, rfl, hlt, hc⟩
        · rw [h0] at hx; cases hx
        · obtain ⟨c1, c2, c3⟩ := hc i x hx
          exact ⟨bl, ol, rfl, hlt, (HR.out.2.cell (p := ⟨bl, _, none⟩) hlt).trans c1, (HR.out.2.cell (p := ⟨bl, _, none⟩) hlt).trans c2, (HR.out.2.cell (p := ⟨bl, _, none⟩) hlt).trans c3⟩
      obtain ⟨bl, ol, hal, hbl, c1, c2, c3⟩ := hcs
      have HBL := Lib.hid hbl
      clear hbl
      obtain ⟨d, v, y⟩ := x
      subst hal
      clear hx
      have HBU := Lib.hid (fun w' (o : Only [] wr w') (hs : wr.heap.size ≤ w'.heap.size) => one_bump (HR.out.1.same o) (Nat.le_trans HR.out.2.size hs) v y)
      have HSC := Lib.hid (one_scale HR.out.1 HR.out.2.size y)
      have HPO := Lib.hid (one_pop HR.out.1 HR.out.2.size)
      have HPU := Lib.hid (one_put HR.out.1 HR.out.2.size v)
      by_cases h0 : d = 0
      · subst h0
        go_wp2_with fail
        go_region_held3 (fun w' => w'.cell? ⟨bl, ol + i * 3 + 1, none⟩ = some (.int .i64 v) ∧ w'.cell? ⟨bl, ol + i * 3 + 2, none⟩ = some (.float .f64 y))
          (first | (refine ⟨?_, ?_⟩ <;> assumption) | (go_keep; done))
          (first | (go_at_call 18; refine (HBU.out _ ?_ ?_).mono ?_; exact ⟨rfl, rfl, rfl, Nat.le_refl _, fun _ _ _ => rfl⟩; exact Nat.le_refl _; rintro e w3 ⟨⟨c, rfl⟩, hb3, hl3⟩; have g1 := (hl3.cell (p := ⟨bl, ol + i * 3 + 1, none⟩) HBL.out).trans c2; have g2 := (hl3.cell (p := ⟨bl, ol + i * 3 + 2, none⟩) HBL.out).trans c3))
        all_goals
          have hl3 : Below W.heap.size wr w3 := ⟨hl3.os, hl3.tape, hl3.output, hl3.size, hl3.block⟩
          have HB3 := Lib.hid hb3
          have HL3 := Lib.hid (HR.out.2.trans hl3)
          clear hb3 hl3
          go_wp2_with fail
          go_roundg (gk - 1)
          case measure => have := HG.out; omega
          case rel => exact ⟨i + 1, rfl, by have := HG.out; omega, Lib.hid ⟨HB3.out, HL3.out⟩⟩
      · by_cases h1 : d = 1
        · subst h1
          go_wp2_with fail
          refine HSC.out.mono ?_
          rintro e w3 ⟨⟨c, rfl⟩, hb3, hl3⟩
          have HB3 := Lib.hid hb3
          have HL3 := Lib.hid (HR.out.2.trans hl3)
          clear hb3 hl3
          go_wp2_with fail
          go_roundg (gk - 1)
          case measure => have := HG.out; omega
          case rel => exact ⟨i + 1, rfl, by have := HG.out; omega, Lib.hid ⟨HB3.out, HL3.out⟩⟩
        · by_cases h2 : d = 2
          · subst h2
            go_wp2_with fail
            refine HPO.out.mono ?_
            rintro e w3 ⟨⟨c, f, rfl⟩, hb3, hl3⟩
            have HB3 := Lib.hid hb3
            have HL3 := Lib.hid (HR.out.2.trans hl3)
            clear hb3 hl3
            go_wp2_with fail
            go_roundg (gk - 1)
            case measure => have := HG.out; omega
            case rel => exact ⟨i + 1, rfl, by have := HG.out; omega, Lib.hid ⟨HB3.out, HL3.out⟩⟩
          · by_cases h3 : d = 3
            · subst h3
              go_wp2_with fail
              refine HPU.out.mono ?_
              rintro e w3 ⟨⟨c, rfl⟩, hb3, hl3⟩
              have HB3 := Lib.hid hb3
              have HL3 := Lib.hid (HR.out.2.trans hl3)
              clear hb3 hl3
              go_wp2_with fail
              go_roundg (gk - 1)
              case measure => have := HG.out; omega
              case rel => exact ⟨i + 1, rfl, by have := HG.out; omega, Lib.hid ⟨HB3.out, HL3.out⟩⟩
            · have e0 : (d == 0) = false := by simpa using h0
              have e1 : (d == 1) = false := by simpa using h1
              have e2 : (d == 2) = false := by simpa using h2
              have e3 : (d == 3) = false := by simpa using h3
              clear h0 h1 h2 h3
              go_wp2_with fail
              go_roundg (gk - 1)
              case measure => have := HG.out; omega
              case rel => exact ⟨i + 1, rfl, by have := HG.out; omega, HR⟩
    · have gA : (¬ i < len) ∨ (i < len ∧ ¬ i < 60) := by omega
      obtain ⟨wA, hwA⟩ : ∃ wA, wA = wr := ⟨_, rfl⟩
      subst hwA
      obtain ⟨gA1, hgA⟩ : ∃ gA, gA = gk := ⟨_, rfl⟩
      subst hgA
      have hbo := HR.out.1
      obtain ⟨sb3, tb3, qb3, m3, S3, T3, P3, h3, hb3⟩ := hbo
      have HLN := Lib.hid (len_any h3.h)
      have hmb := h3.h.le
      have H3 : Hid (HAt wA p sb3 tb3 qb3 60 m3 S3 T3 P3 ∧ Below W.heap.size W wA) := Lib.hid ⟨h3, HR.out.2⟩
      have HBB := Lib.hid hb3
      clear h3 hlt hb3
      rcases gA with hA | ⟨hA, hA2⟩
      · have g1 : decide (((i : Nat) : Int) < ((len : Nat) : Int)) = false := decide_eq_false (by omega)
        have g2 : ¬ ((i : Nat) : Int) < ((len : Nat) : Int) := by omega
        clear hgk
        go_wp2_with fail
        refine HLN.out.mono ?_
        rintro e wA ⟨rfl, rfl⟩
        go_wp2_with fail
        go_loopg [9, 10] m3 (fun gk v9 v10 wr => ∃ (k last : Nat) (T P : Nat → Nat), v9 = .int .i64 ((last : Nat) : Int) ∧ v10 = .int .i64 ((k : Nat) : Int) ∧ k + gk = m3 ∧ last ≤ 60 ∧ Hid (HAt wr p sb3 tb3 qb3 60 gk S3 T P ∧ Below W.heap.size W wr ∧ (last = 0 ∨ ∀ u, 1 ≤ u → u ≤ 60 → P u ≠ 0 → aheadF S3 last u = true)))
        case atStart => exact ⟨0, 0, T3, P3, rfl, rfl, by omega, by omega, Lib.hid ⟨H3.out.1, H3.out.2, .inl rfl⟩⟩
        case round =>
          obtain ⟨k, last, T4, P4, rfl, rfl, hkg, hln, H4⟩ := hrel
          have HK := Lib.hid hkg
          clear H3
          have k0 : (0 : Int) ≤ ((k : Nat) : Int) := by omega
          have l0 : (0 : Int) ≤ ((last : Nat) : Int) := by omega
          cases gk with
          | zero =>
            have t1 : decide (((k : Nat) : Int) < ((m3 : Nat) : Int)) = false := decide_eq_false (by omega)
            have t2 : ¬ ((k : Nat) : Int) < ((m3 : Nat) : Int) := by omega
            have HPN := Lib.hid (pop_none H4.out.1)
            clear hkg
            go_wp2_with fail
            refine HPN.out.mono ?_
            rintro e wr ⟨rfl, rfl⟩
            go_wp2_with fail
            refine (lives_any _).mono ?_
            rintro e w6 ⟨rfl, hb6⟩
            go_wp2_with fail
            go_ret
            exact ⟨rfl, H4.out.2.1.trans (hb6.mono H4.out.2.1.size)⟩
          | succ gk =>
            have t1 : decide (((k : Nat) : Int) < ((m3 : Nat) : Int)) = true := decide_eq_true (by omega)
            have t2 : ((k : Nat) : Int) < ((m3 : Nat) : Int) := by omega
            have s2 := step_i (j := k) (by omega)
            have HPY := Lib.hid (pop_yes H4.out.1)
            have hv := H4.out.1.fit.t 1 (by omega) (by omega)
            have HV : Hid (∀ u, 1 ≤ u → u ≤ 60 → P4 u ≠ 0 → u ≠ T4 1 → aheadF S3 (T4 1) u = true) := Lib.hid (fun u a b c d => first_of H4.out.1.ord H4.out.1.fit a b c d)
            have HAH : Hid (last = 0 ∨ aheadF S3 last (T4 1) = true) := Lib.hid (H4.out.2.2.imp id fun x => x _ hv.1 hv.2.1 (by rw [hv.2.2]; omega))
            obtain ⟨v, hvv⟩ : ∃ v, v = T4 1 := ⟨_, rfl⟩
            rw [← hvv] at HPY hv HV HAH
            have hv1 := hv.1
            have hv2 := hv.2.1
            clear hkg hv hvv
            go_wp2_with fail
            refine HPY.out.mono ?_
            rintro e w5 ⟨rfl, T5, Q5, g, gz, gq, go⟩
            have HHS := Lib.hid (has_any g.h ((v : Nat) : Int))
            have hin : inF 60 Q5 ((v : Nat) : Int) = false := by
              unfold inF
              rw [isV_of hv1 hv2, Int.toNat_natCast, gz]; rfl
            rw [hin] at HHS
            have HS1 := Lib.hid (score_any g.h ((last : Nat) : Int))
            have HS2 := Lib.hid (score_any g.h ((v : Nat) : Int))
            have hs2 : scF 60 S3 ((v : Nat) : Int) = S3 v := by
              unfold scF
              rw [isV_of hv1 hv2, Int.toNat_natCast, if_pos rfl]
            rw [hs2] at HS2
            have H5 : Hid (HAt w5 p sb3 tb3 qb3 60 gk S3 T5 Q5 ∧ Below W.heap.size W w5 ∧ (v = 0 ∨ ∀ u, 1 ≤ u → u ≤ 60 → Q5 u ≠ 0 → aheadF S3 v u = true)) := Lib.hid ⟨g, H4.out.2.1.trans (go.low HBB.out H4.out.2.1.size), .inr fun u a b c => HV.out u a b (fun x => c (((gq u a b (fun e => c (by rw [e]; exact gz))).1 x))) (fun e => c (by rw [e]; exact gz))⟩
            clear g gz gq go hin hs2 HV
            by_cases hl : last = 0
            · subst hl
              clear HAH HS1 HS2
              go_wp2_with fail
              refine HHS.out.mono ?_
              rintro e w5 ⟨rfl, rfl⟩
              go_wp2_with fail
              go_roundg gk
              case measure => omega
              case rel => exact ⟨k + 1, v, T5, Q5, rfl, rfl, by have := HK.out; omega, hv2, H5⟩
            · have l1 : decide (0 < ((last : Nat) : Int)) = true := decide_eq_true (by omega)
              have l2 : 0 < ((last : Nat) : Int) := by omega
              have hs1 : scF 60 S3 ((last : Nat) : Int) = S3 last := by
                unfold scF
                rw [isV_of (by omega) hln, Int.toNat_natCast, if_pos rfl]
              rw [hs1] at HS1
              have hah := HAH.out.resolve_left hl
              have hba : aboveF (S3 v) (S3 last) = false := by
                have := ahead_asym hah
                unfold aheadF at this
                cases h9 : aboveF (S3 v) (S3 last) with
                | false => rfl
                | true => rw [h9] at this; cases this
              have HA1 := Lib.hid (fun w => above_any (S3 v) (S3 last) w)
              rw [hba] at HA1
              have HA2 := Lib.hid (fun w => above_any (S3 last) (S3 v) w)
              cases hab : aboveF (S3 last) (S3 v) with
              | true =>
                rw [hab] at HA2
                clear hab hah hba hs1 HAH
                go_wp2_with fail
                refine HHS.out.mono ?_
                rintro e w5 ⟨rfl, rfl⟩
                go_wp2_with fail
                refine HS1.out.mono ?_
                rintro e w5 ⟨rfl, rfl⟩
                go_wp2_with fail
                refine HS2.out.mono ?_
                rintro e w5 ⟨rfl, rfl⟩
                go_wp2_with fail
                refine (HA1.out _).mono ?_
                rintro e w5 ⟨rfl, rfl⟩
                go_wp2_with fail
                refine (HA2.out _).mono ?_
                rintro e w5 ⟨rfl, rfl⟩
                go_wp2_with fail
                go_roundg gk
                case measure => omega
                case rel => exact ⟨k + 1, v, T5, Q5, rfl, rfl, by have := HK.out; omega, hv2, H5⟩
              | false =>
                have hlv : last < v := by
                  unfold aheadF at hah
                  rw [hab] at hah
                  simp at hah
                  exact hah.1
                have l3 : decide (((v : Nat) : Int) < ((last : Nat) : Int)) = false := decide_eq_false (by omega)
                have l4 : ¬ ((v : Nat) : Int) < ((last : Nat) : Int) := by omega
                rw [hab] at HA2
                clear hab hah hba hs1 HAH
                go_wp2_with fail
                refine HHS.out.mono ?_
                rintro e w5 ⟨rfl, rfl⟩
                go_wp2_with fail
                refine HS1.out.mono ?_
                rintro e w5 ⟨rfl, rfl⟩
                go_wp2_with fail
                refine HS2.out.mono ?_
                rintro e w5 ⟨rfl, rfl⟩
                go_wp2_with fail
                refine (HA1.out _).mono ?_
                rintro e w5 ⟨rfl, rfl⟩
                go_wp2_with fail
                refine (HA2.out _).mono ?_
                rintro e w5 ⟨rfl, rfl⟩
                go_wp2_with fail
                go_roundg gk
                case measure => omega
                case rel => exact ⟨k + 1, v, T5, Q5, rfl, rfl, by have := HK.out; omega, hv2, H5⟩
      · have g1 : decide (((i : Nat) : Int) < ((len : Nat) : Int)) = true := decide_eq_true (by omega)
        have g2 : ((i : Nat) : Int) < ((len : Nat) : Int) := by omega
        have g3 : decide (((i : Nat) : Int) < 60) = false := decide_eq_false (by omega)
        have g4 : ¬ ((i : Nat) : Int) < 60 := by omega
        clear hgk
        go_wp2_with fail
        refine HLN.out.mono ?_
        rintro e wA ⟨rfl, rfl⟩
        go_wp2_with fail
        go_loopg [9, 10] m3 (fun gk v9 v10 wr => ∃ (k last : Nat) (T P : Nat → Nat), v9 = .int .i64 ((last : Nat) : Int) ∧ v10 = .int .i64 ((k : Nat) : Int) ∧ k + gk = m3 ∧ last ≤ 60 ∧ Hid (HAt wr p sb3 tb3 qb3 60 gk S3 T P ∧ Below W.heap.size W wr ∧ (last = 0 ∨ ∀ u, 1 ≤ u → u ≤ 60 → P u ≠ 0 → aheadF S3 last u = true)))
        case atStart => exact ⟨0, 0, T3, P3, rfl, rfl, by omega, by omega, Lib.hid ⟨H3.out.1, H3.out.2, .inl rfl⟩⟩
        case round =>
          obtain ⟨k, last, T4, P4, rfl, rfl, hkg, hln, H4⟩ := hrel
          have HK := Lib.hid hkg
          clear H3
          have k0 : (0 : Int) ≤ ((k : Nat) : Int) := by omega
          have l0 : (0 : Int) ≤ ((last : Nat) : Int) := by omega
          cases gk with
          | zero =>
            have t1 : decide (((k : Nat) : Int) < ((m3 : Nat) : Int)) = false := decide_eq_false (by omega)
            have t2 : ¬ ((k : Nat) : Int) < ((m3 : Nat) : Int) := by omega
            have HPN := Lib.hid (pop_none H4.out.1)
            clear hkg
            go_wp2_with fail
            refine HPN.out.mono ?_
            rintro e wr ⟨rfl, rfl⟩
            go_wp2_with fail
            refine (lives_any _).mono ?_
            rintro e w6 ⟨rfl, hb6⟩
            go_wp2_with fail
            go_ret
            exact ⟨rfl, H4.out.2.1.trans (hb6.mono H4.out.2.1.size)⟩
          | succ gk =>
            have t1 : decide (((k : Nat) : Int) < ((m3 : Nat) : Int)) = true := decide_eq_true (by omega)
            have t2 : ((k : Nat) : Int) < ((m3 : Nat) : Int) := by omega
            have s2 := step_i (j := k) (by omega)
            have HPY := Lib.hid (pop_yes H4.out.1)
            have hv := H4.out.1.fit.t 1 (by omega) (by omega)
            have HV : Hid (∀ u, 1 ≤ u → u ≤ 60 → P4 u ≠ 0 → u ≠ T4 1 → aheadF S3 (T4 1) u = true) := Lib.hid (fun u a b c d => first_of H4.out.1.ord H4.out.1.fit a b c d)
            have HAH : Hid (last = 0 ∨ aheadF S3 last (T4 1) = true) := Lib.hid (H4.out.2.2.imp id fun x => x _ hv.1 hv.2.1 (by rw [hv.2.2]; omega))
            obtain ⟨v, hvv⟩ : ∃ v, v = T4 1 := ⟨_, rfl⟩
            rw [← hvv] at HPY hv HV HAH
            have hv1 := hv.1
            have hv2 := hv.2.1
            clear hkg hv hvv
            go_wp2_with fail
            refine HPY.out.mono ?_
            rintro e w5 ⟨rfl, T5, Q5, g, gz, gq, go⟩
            have HHS := Lib.hid (has_any g.h ((v : Nat) : Int))
            have hin : inF 60 Q5 ((v : Nat) : Int) = false := by
              unfold inF
              rw [isV_of hv1 hv2, Int.toNat_natCast, gz]; rfl
            rw [hin] at HHS
            have HS1 := Lib.hid (score_any g.h ((last : Nat) : Int))
            have HS2 := Lib.hid (score_any g.h ((v : Nat) : Int))
            have hs2 : scF 60 S3 ((v : Nat) : Int) = S3 v := by
              unfold scF
              rw [isV_of hv1 hv2, Int.toNat_natCast, if_pos rfl]
            rw [hs2] at HS2
            have H5 : Hid (HAt w5 p sb3 tb3 qb3 60 gk S3 T5 Q5 ∧ Below W.heap.size W w5 ∧ (v = 0 ∨ ∀ u, 1 ≤ u → u ≤ 60 → Q5 u ≠ 0 → aheadF S3 v u = true)) := Lib.hid ⟨g, H4.out.2.1.trans (go.low HBB.out H4.out.2.1.size), .inr fun u a b c => HV.out u a b (fun x => c (((gq u a b (fun e => c (by rw [e]; exact gz))).1 x))) (fun e => c (by rw [e]; exact gz))⟩
            clear g gz gq go hin hs2 HV
            by_cases hl : last = 0
            · subst hl
              clear HAH HS1 HS2
              go_wp2_with fail
              refine HHS.out.mono ?_
              rintro e w5 ⟨rfl, rfl⟩
              go_wp2_with fail
              go_roundg gk
              case measure => omega
              case rel => exact ⟨k + 1, v, T5, Q5, rfl, rfl, by have := HK.out; omega, hv2, H5⟩
            · have l1 : decide (0 < ((last : Nat) : Int)) = true := decide_eq_true (by omega)
              have l2 : 0 < ((last : Nat) : Int) := by omega
              have hs1 : scF 60 S3 ((last : Nat) : Int) = S3 last := by
                unfold scF
                rw [isV_of (by omega) hln, Int.toNat_natCast, if_pos rfl]
              rw [hs1] at HS1
              have hah := HAH.out.resolve_left hl
              have hba : aboveF (S3 v) (S3 last) = false := by
                have := ahead_asym hah
                unfold aheadF at this
                cases h9 : aboveF (S3 v) (S3 last) with
                | false => rfl
                | true => rw [h9] at this; cases this
              have HA1 := Lib.hid (fun w => above_any (S3 v) (S3 last) w)
              rw [hba] at HA1
              have HA2 := Lib.hid (fun w => above_any (S3 last) (S3 v) w)
              cases hab : aboveF (S3 last) (S3 v) with
              | true =>
                rw [hab] at HA2
                clear hab hah hba hs1 HAH
                go_wp2_with fail
                refine HHS.out.mono ?_
                rintro e w5 ⟨rfl, rfl⟩
                go_wp2_with fail
                refine HS1.out.mono ?_
                rintro e w5 ⟨rfl, rfl⟩
                go_wp2_with fail
                refine HS2.out.mono ?_
                rintro e w5 ⟨rfl, rfl⟩
                go_wp2_with fail
                refine (HA1.out _).mono ?_
                rintro e w5 ⟨rfl, rfl⟩
                go_wp2_with fail
                refine (HA2.out _).mono ?_
                rintro e w5 ⟨rfl, rfl⟩
                go_wp2_with fail
                go_roundg gk
                case measure => omega
                case rel => exact ⟨k + 1, v, T5, Q5, rfl, rfl, by have := HK.out; omega, hv2, H5⟩
              | false =>
                have hlv : last < v := by
                  unfold aheadF at hah
                  rw [hab] at hah
                  simp at hah
                  exact hah.1
                have l3 : decide (((v : Nat) : Int) < ((last : Nat) : Int)) = false := decide_eq_false (by omega)
                have l4 : ¬ ((v : Nat) : Int) < ((last : Nat) : Int) := by omega
                rw [hab] at HA2
                clear hab hah hba hs1 HAH
                go_wp2_with fail
                refine HHS.out.mono ?_
                rintro e w5 ⟨rfl, rfl⟩
                go_wp2_with fail
                refine HS1.out.mono ?_
                rintro e w5 ⟨rfl, rfl⟩
                go_wp2_with fail
                refine HS2.out.mono ?_
                rintro e w5 ⟨rfl, rfl⟩
                go_wp2_with fail
                refine (HA1.out _).mono ?_
                rintro e w5 ⟨rfl, rfl⟩
                go_wp2_with fail
                refine (HA2.out _).mono ?_
                rintro e w5 ⟨rfl, rfl⟩
                go_wp2_with fail
                go_roundg gk
                case measure => omega
                case rel => exact ⟨k + 1, v, T5, Q5, rfl, rfl, by have := HK.out; omega, hv2, H5⟩
theorem order_any {al : Option Addr} {X : List Ac} {len cl : Nat} (n : Int) {W : World} (hX : ActsAt W al X) (hlen : len = X.length) : Calls Try.prog 4 #[.int .i64 n, .slice al len cl] W fun e w => e = .returned (.bool true) ∧ Below W.heap.size W w := by
  by_cases h0 : n < 0
  · exact order_none h0 W
  · by_cases h1 : 60 < n
    · exact order_many h1 hX hlen
    · obtain ⟨k, rfl⟩ := Int.eq_ofNat_of_zero_le (a := n) (by omega)
      exact order_few (by omega) hX hlen
end Hp
end Go.Proofs.Ytdajnmlpghgeeaa
