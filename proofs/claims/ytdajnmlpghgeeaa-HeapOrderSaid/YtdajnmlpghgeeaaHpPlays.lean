/-
  HeapPlays, walked.
-/
import Derived.Test.YtdajnmlpghgeeaaHpDidB
import Derived.Test.YtdajnmlpghgeeaaHpNone
namespace Go.Proofs.Ytdajnmlpghgeeaa
open Go.RowKit
namespace Hp
set_option maxHeartbeats 3200000
set_option maxRecDepth 100000

/-- An act, handed in. -/
structure Ac where
  d : Int
  v : Int
  y : Nat
def ActsAt (W : World) (al : Option Addr) (X : List Ac) : Prop := X = [] ∨ ∃ bl ol, al = some ⟨bl, ol, none⟩ ∧ bl < W.heap.size ∧ ∀ i x, X[i]? = some x → W.cell? ⟨bl, ol + i * 3, none⟩ = some (.int .i64 x.d) ∧ W.cell? ⟨bl, ol + i * 3 + 1, none⟩ = some (.int .i64 x.v) ∧ W.cell? ⟨bl, ol + i * 3 + 2, none⟩ = some (.float .f64 x.y)
theorem like_any {a b : Nat} (h : likeF a b) (W : World) : Calls Try.prog 15 #[.float .f64 a, .float .f64 b] W fun e w => e = .returned (.bool true) ∧ w = W := by
  have o1 := order_self a
  have o2 := order_self b
  cases hk : keyF a with
  | some p =>
    have hb : keyF b = some p := by rw [← h.key]; exact hk
    have o3 : (FloatKind.f64.format.order a b == some .eq) = true := by rw [order_key, hk, hb]; simp [cmpO, compare, compareOfLessAndEq]
    clear h hk hb o1 o2
    go_enter Try.func15, Try.ntmps15
    go_wp2_with fail
    go_ret
    exact ⟨rfl, rfl⟩
  | none =>
    have hb : keyF b = none := by rw [← h.key]; exact hk
    have o3 : (FloatKind.f64.format.order a b == some .eq) = false := by rw [order_key, hk]; rfl
    rw [hk] at o1
    rw [hb] at o2
    have o1 : (FloatKind.f64.format.order a a != some .eq) = true := o1
    have o2 : (FloatKind.f64.format.order b b != some .eq) = true := o2
    clear h hk hb
    go_enter Try.func15, Try.ntmps15
    go_wp2_with fail
    go_ret
    exact ⟨rfl, rfl⟩
theorem Alike.has {n : Nat} {S P : Nat → Nat} {R : List Nat} {I : List Bool} (h : Alike n S P R I) (v : Int) : hasP R I v = inF n P v := by
  unfold hasP inF
  rw [there_is h.rl]
  cases hv : isV n v with
  | false => rfl
  | true =>
    obtain ⟨k, rfl, k1, k2⟩ := isV_at hv
    rw [Int.toNat_natCast]
    have := h.inn k k1 k2
    unfold inP at this
    cases hb : (I[k]?).getD false with
    | true => rw [decide_eq_true (this.1 hb)]
    | false => rw [decide_eq_false (fun x => by have := this.2 x; rw [hb] at this; cases this)]
theorem Alike.score {n : Nat} {S P : Nat → Nat} {R : List Nat} {I : List Bool} (h : Alike n S P R I) (v : Int) : likeF (scF n S v) (scoreP R v) := by
  unfold scF scoreP
  rw [there_is h.rl]
  cases hv : isV n v with
  | false => exact .inl rfl
  | true =>
    obtain ⟨k, rfl, k1, k2⟩ := isV_at hv
    rw [if_pos rfl, if_pos rfl, Int.toNat_natCast]
    exact h.like k k1 k2
theorem plays_none {al : Option Addr} {len cl : Nat} {n : Int} (h : n < 0) (W : World) : Calls Try.prog 3 #[.int .i64 n, .slice al len cl] W fun e w => e = .returned (.bool true) ∧ Below W.heap.size W w := by
  have g1 : decide (60 < n) = false := decide_eq_false (by omega)
  have g2 : ¬ 60 < n := by omega
  have HR := Lib.hid (fun w => rnew_no (.inl h) w)
  have HP := Lib.hid (fun w => new_no (.inl h) w)
  clear h
  go_enter Try.func3, Try.ntmps3
  go_wp2_with fail
  refine (HP.out _).mono ?_
  rintro e W ⟨rfl, rfl⟩
  go_wp2_with fail
  refine (HR.out _).mono ?_
  rintro e W ⟨rfl, rfl⟩
  go_wp2_with fail
  refine (lives_any _).mono ?_
  rintro e w ⟨rfl, hb⟩
  go_wp2_with fail
  go_ret
  exact ⟨rfl, hb⟩
theorem both_made {W w1 w2 : World} {p sb tb qb rp rsb rib n : Nat} {T P : Nat → Nat} (h : HAt w1 p sb tb qb n n (fun _ => 0) T P) (hin : ∀ v, 1 ≤ v → v ≤ n → P v ≠ 0) (hb1 : Below W.heap.size W w1) (hp : W.heap.size ≤ p ∧ W.heap.size ≤ sb ∧ W.heap.size ≤ tb ∧ W.heap.size ≤ qb) (r : RHp w2 rp rsb rib (List.replicate (n + 1) 0) (inM n (n + 1))) (hb2 : Below w1.heap.size w1 w2) (hr : w1.heap.size ≤ rp ∧ w1.heap.size ≤ rsb ∧ w1.heap.size ≤ rib) : Both W.heap.size w2 p rp n ∧ Below W.heap.size W w2 := by
  obtain ⟨l1, l2, l3, l4⟩ := h.h.lt
  have hs := hb1.size
  obtain ⟨p1, p2, p3, p4⟩ := hp
  obtain ⟨r1, r2, r3⟩ := hr
  have hb := hb1.trans (hb2.mono hs)
  have o : Only [w1.heap.size] w1 w2 := ⟨hb2.os, hb2.tape, hb2.output, hb2.size, fun k hk _ => hb2.block k hk⟩
  refine ⟨⟨sb, tb, qb, rsb, rib, n, _, T, P, _, _, h.only o (by simp; omega) (by simp; omega) (by simp; omega) (by simp; omega), r, ⟨by simp, by simp [inM], fun v a b => ?_, fun v a b => ⟨fun _ => hin v a b, fun _ => ?_⟩⟩, ⟨p1, p2, p3, p4, by omega, by omega, by omega⟩, ⟨⟨by omega, by omega, by omega, by omega⟩, ⟨by omega, by omega, by omega, by omega⟩, by omega, by omega, by omega, by omega⟩⟩, hb⟩
  · unfold scP
    rw [List.getElem?_replicate, if_pos (by omega)]
    exact .inl rfl
  · unfold inP inM
    rw [List.getElem?_map, List.getElem?_range (by omega)]
    simp; omega
theorem plays_few {al : Option Addr} {X : List Ac} {len cl : Nat} {n : Nat} (hn : n ≤ 60) {W : World} (hX : ActsAt W al X) (hlen : len = X.length) : Calls Try.prog 3 #[.int .i64 ((n : Nat) : Int), .slice al len cl] W fun e w => e = .returned (.bool true) ∧ Below W.heap.size W w := by
  have a1 : decide (60 < ((n : Nat) : Int)) = false := decide_eq_false (by omega)
  have a2 : ¬ 60 < ((n : Nat) : Int) := by omega
  have HX := Lib.hid hX
  have HL := Lib.hid hlen
  clear hX hlen
  go_enter Try.func3, Try.ntmps3
  go_wp2_with fail
  refine (new_yes (n := n) (by omega) W).mono ?_
  rintro e w1 ⟨p, sb, tb, qb, T, P, rfl, h, hin, hbl, hp⟩
  have H1 : Hid (HAt w1 p sb tb qb n n (fun _ => 0) T P ∧ (∀ v, 1 ≤ v → v ≤ n → P v ≠ 0) ∧ Below W.heap.size W w1 ∧ (W.heap.size ≤ p ∧ W.heap.size ≤ sb ∧ W.heap.size ≤ tb ∧ W.heap.size ≤ qb)) := Lib.hid ⟨h, hin, hbl, hp⟩
  clear h hin hbl hp
  go_wp2_with fail
  refine (rnew_yes (n := n) (by omega) w1).mono ?_
  rintro e w2 ⟨rp, rsb, rib, rfl, hr, hbl, hp1, hp2, hp3⟩
  have H2 : Hid (Both W.heap.size w2 p rp n ∧ Below W.heap.size W w2) := Lib.hid (both_made H1.out.1 H1.out.2.1 H1.out.2.2.1 H1.out.2.2.2 hr hbl ⟨hp1, hp2, hp3⟩)
  clear hr hbl hp1 hp2 hp3 H1
  go_wp2_with fail
  go_loopg [9] (min len 80) (fun gk v9 wr => ∃ i : Nat, v9 = .int .i64 ((i : Nat) : Int) ∧ i + gk = min len 80 ∧ Hid (Both W.heap.size wr p rp n ∧ Below W.heap.size W wr))
  case atStart => exact ⟨0, rfl, by omega, H2⟩
  case round =>
    obtain ⟨i, rfl, hgk, HR⟩ := hrel
    clear H2
    have HG := Lib.hid hgk
    have i0 : (0 : Int) ≤ ((i : Nat) : Int) := by omega
    by_cases hlt : i < len ∧ i < 80
    · have g1 : decide (((i : Nat) : Int) < ((len : Nat) : Int)) = true := decide_eq_true (by omega)
      have g2 : ((i : Nat) : Int) < ((len : Nat) : Int) := by omega
      have g3 : decide (((i : Nat) : Int) < 80) = true := decide_eq_true (by omega)
      have g4 : ((i : Nat) : Int) < 80 := by omega
      have s1 := step_i (j := i) (by omega)
      clear hgk
      obtain ⟨x, hx⟩ : ∃ x, X[i]? = some x := ⟨_, List.getElem?_eq_getElem (by rw [← HL.out]; exact hlt.1)⟩
      have hcs : ∃ bl ol, al = some ⟨bl, ol, none⟩ ∧ wr.cell? ⟨bl, ol + i * 3, none⟩ = some (.int .i64 x.d) ∧ wr.cell? ⟨bl, ol + i * 3 + 1, none⟩ = some (.int .i64 x.v) ∧ wr.cell? ⟨bl, ol + i * 3 + 2, none⟩ = some (.float .f64 x.y) := by
        rcases HX.out with h0 | ⟨bl, ol, rfl, hlt, hc⟩
        · rw [h0] at hx; cases hx
        · obtain ⟨c1, c2, c3⟩ := hc i x hx
          exact ⟨bl, ol, rfl, (HR.out.2.cell (p := ⟨bl, _, none⟩) hlt).trans c1, (HR.out.2.cell (p := ⟨bl, _, none⟩) hlt).trans c2, (HR.out.2.cell (p := ⟨bl, _, none⟩) hlt).trans c3⟩
      obtain ⟨bl, ol, hal, c1, c2, c3⟩ := hcs
      obtain ⟨d, v, y⟩ := x
      have HD := Lib.hid (did_any HR.out.1 HR.out.2.size d v y)
      subst hal
      clear hx
      go_wp2_with fail
      refine HD.out.mono ?_
      rintro e w3 ⟨rfl, hb3, hl3⟩
      have HB3 := Lib.hid hb3
      have HL3 := Lib.hid (HR.out.2.trans hl3)
      obtain ⟨sb3, tb3, qb3, rsb3, rib3, m3, S3, T3, P3, R3, I3, h3⟩ := hb3
      have HA := Lib.hid (len_any h3.h.h)
      have HRL := Lib.hid (rlen_any h3.r)
      rw [h3.a.len h3.h.fit] at HRL
      clear h3 hl3
      go_wp2_with fail
      refine HA.out.mono ?_
      rintro e w3 ⟨rfl, rfl⟩
      go_wp2_with fail
      refine HRL.out.mono ?_
      rintro e w3 ⟨rfl, rfl⟩
      go_wp2_with fail
      go_roundg (gk - 1)
      case measure => have := HG.out; omega
      case rel => exact ⟨i + 1, rfl, by have := HG.out; omega, Lib.hid ⟨HB3.out, HL3.out⟩⟩
    · have gA : (¬ i < len) ∨ (i < len ∧ ¬ i < 80) := by omega
      obtain ⟨wA, hwA⟩ : ∃ wA, wA = wr := ⟨_, rfl⟩
      subst hwA
      obtain ⟨gA1, hgA⟩ : ∃ gA, gA = gk := ⟨_, rfl⟩
      subst hgA
      have hbo := HR.out.1
      obtain ⟨sb3, tb3, qb3, rsb3, rib3, m3, S3, T3, P3, R3, I3, h3⟩ := hbo
      have H3 : Hid (Two W.heap.size wA p sb3 tb3 qb3 rp rsb3 rib3 n m3 S3 T3 P3 R3 I3 ∧ Below W.heap.size W wA) := Lib.hid ⟨h3, HR.out.2⟩
      clear h3 hlt
      rcases gA with hA | ⟨hA, hA2⟩
      · have g1 : decide (((i : Nat) : Int) < ((len : Nat) : Int)) = false := decide_eq_false (by omega)
        have g2 : ¬ ((i : Nat) : Int) < ((len : Nat) : Int) := by omega
        clear hgk
        go_wp2_with fail
        go_loopg [10] (n + 3) (fun gk v10 wr => ∃ j : Int, v10 = .int .i64 j ∧ -1 ≤ j ∧ j + (gk : Int) = (((n : Nat) : Int) + 2) ∧ Hid (Two W.heap.size wr p sb3 tb3 qb3 rp rsb3 rib3 n m3 S3 T3 P3 R3 I3 ∧ Below W.heap.size W wr))
        case atStart => exact ⟨-1, rfl, by omega, by omega, H3⟩
        case round =>
          obtain ⟨j, rfl, hj1, hj2, H4⟩ := hrel
          have HJ := Lib.hid hj2
          clear H3
          by_cases hjn : j ≤ ((n : Nat) : Int) + 1
          · have t1 : decide (j ≤ ((n : Nat) : Int) + 1) = true := decide_eq_true (by omega)
            have t2 : j ≤ ((n : Nat) : Int) + 1 := by omega
            have s2 : wrap64 (j + 1) = j + 1 := IntWalk.wrap64_in _ (by omega)
            have HHA := Lib.hid (has_any H4.out.1.h.h j)
            have HRH := Lib.hid (rhas_any H4.out.1.r j)
            have HSC := Lib.hid (fun w' (o : Only [] wr w') => score_any (H4.out.1.same o).h.h j)
            have HRS := Lib.hid (fun w' (o : Only [] wr w') => rscore_any (H4.out.1.same o).r j)
            have HLK := Lib.hid (fun w => like_any (H4.out.1.a.score j) w)
            rw [H4.out.1.a.has j] at HRH
            clear hj2 hjn
            generalize inF n P3 j = b at *
            go_wp2_with fail
            refine HHA.out.mono ?_
            rintro e wr ⟨rfl, rfl⟩
            go_wp2_with fail
            refine HRH.out.mono ?_
            rintro e w5 ⟨rfl, q5, rfl⟩
            cases b
            all_goals
              go_wp2_with fail
              refine (HSC.out _ ?_).mono ?_
              exact ⟨rfl, rfl, rfl, Nat.le_refl _, fun _ _ _ => rfl⟩
              rintro e w6 ⟨rfl, rfl⟩
              go_wp2_with fail
              refine (HRS.out _ ?_).mono ?_
              exact ⟨rfl, rfl, rfl, Nat.le_refl _, fun _ _ _ => rfl⟩
              rintro e w6 ⟨rfl, q6, rfl⟩
              go_wp2_with fail
              refine (HLK.out _).mono ?_
              rintro e w6 ⟨rfl, rfl⟩
              go_wp2_with fail
              go_roundg (gk - 1)
              case measure => have := HJ.out; omega
              case rel => exact ⟨j + 1, rfl, by omega, by have := HJ.out; omega, Lib.hid ⟨H4.out.1.same ⟨rfl, rfl, rfl, Nat.le_refl _, fun _ _ _ => rfl⟩, H4.out.2.trans ⟨rfl, rfl, rfl, Nat.le_refl _, fun _ _ => rfl⟩⟩⟩
          · have t1 : decide (j ≤ ((n : Nat) : Int) + 1) = false := decide_eq_false (by omega)
            have t2 : ¬ j ≤ ((n : Nat) : Int) + 1 := by omega
            clear hj2 hjn
            go_wp2_with fail
            refine (lives_any _).mono ?_
            rintro e w6 ⟨rfl, hb6⟩
            go_wp2_with fail
            go_ret
            exact ⟨rfl, H4.out.2.trans (hb6.mono H4.out.2.size)⟩
      · have g1 : decide (((i : Nat) : Int) < ((len : Nat) : Int)) = true := decide_eq_true (by omega)
        have g2 : ((i : Nat) : Int) < ((len : Nat) : Int) := by omega
        have g3 : decide (((i : Nat) : Int) < 80) = false := decide_eq_false (by omega)
        have g4 : ¬ ((i : Nat) : Int) < 80 := by omega
        clear hgk
        go_wp2_with fail
        go_loopg [10] (n + 3) (fun gk v10 wr => ∃ j : Int, v10 = .int .i64 j ∧ -1 ≤ j ∧ j + (gk : Int) = (((n : Nat) : Int) + 2) ∧ Hid (Two W.heap.size wr p sb3 tb3 qb3 rp rsb3 rib3 n m3 S3 T3 P3 R3 I3 ∧ Below W.heap.size W wr))
        case atStart => exact ⟨-1, rfl, by omega, by omega, H3⟩
        case round =>
          obtain ⟨j, rfl, hj1, hj2, H4⟩ := hrel
          have HJ := Lib.hid hj2
          clear H3
          by_cases hjn : j ≤ ((n : Nat) : Int) + 1
          · have t1 : decide (j ≤ ((n : Nat) : Int) + 1) = true := decide_eq_true (by omega)
            have t2 : j ≤ ((n : Nat) : Int) + 1 := by omega
            have s2 : wrap64 (j + 1) = j + 1 := IntWalk.wrap64_in _ (by omega)
            have HHA := Lib.hid (has_any H4.out.1.h.h j)
            have HRH := Lib.hid (rhas_any H4.out.1.r j)
            have HSC := Lib.hid (fun w' (o : Only [] wr w') => score_any (H4.out.1.same o).h.h j)
            have HRS := Lib.hid (fun w' (o : Only [] wr w') => rscore_any (H4.out.1.same o).r j)
            have HLK := Lib.hid (fun w => like_any (H4.out.1.a.score j) w)
            rw [H4.out.1.a.has j] at HRH
            clear hj2 hjn
            generalize inF n P3 j = b at *
            go_wp2_with fail
            refine HHA.out.mono ?_
            rintro e wr ⟨rfl, rfl⟩
            go_wp2_with fail
            refine HRH.out.mono ?_
            rintro e w5 ⟨rfl, q5, rfl⟩
            cases b
            all_goals
              go_wp2_with fail
              refine (HSC.out _ ?_).mono ?_
              exact ⟨rfl, rfl, rfl, Nat.le_refl _, fun _ _ _ => rfl⟩
              rintro e w6 ⟨rfl, rfl⟩
              go_wp2_with fail
              refine (HRS.out _ ?_).mono ?_
              exact ⟨rfl, rfl, rfl, Nat.le_refl _, fun _ _ _ => rfl⟩
              rintro e w6 ⟨rfl, q6, rfl⟩
              go_wp2_with fail
              refine (HLK.out _).mono ?_
              rintro e w6 ⟨rfl, rfl⟩
              go_wp2_with fail
              go_roundg (gk - 1)
              case measure => have := HJ.out; omega
              case rel => exact ⟨j + 1, rfl, by omega, by have := HJ.out; omega, Lib.hid ⟨H4.out.1.same ⟨rfl, rfl, rfl, Nat.le_refl _, fun _ _ _ => rfl⟩, H4.out.2.trans ⟨rfl, rfl, rfl, Nat.le_refl _, fun _ _ => rfl⟩⟩⟩
          · have t1 : decide (j ≤ ((n : Nat) : Int) + 1) = false := decide_eq_false (by omega)
            have t2 : ¬ j ≤ ((n : Nat) : Int) + 1 := by omega
            clear hj2 hjn
            go_wp2_with fail
            refine (lives_any _).mono ?_
            rintro e w6 ⟨rfl, hb6⟩
            go_wp2_with fail
            go_ret
            exact ⟨rfl, H4.out.2.trans (hb6.mono H4.out.2.size)⟩
theorem plays_many {al : Option Addr} {X : List Ac} {len cl : Nat} {n : Int} (hn : 60 < n) {W : World} (hX : ActsAt W al X) (hlen : len = X.length) : Calls Try.prog 3 #[.int .i64 n, .slice al len cl] W fun e w => e = .returned (.bool true) ∧ Below W.heap.size W w := by
  have a1 : decide (60 < n) = true := decide_eq_true hn
  have HX := Lib.hid hX
  have HL := Lib.hid hlen
  clear hX hlen
  go_enter Try.func3, Try.ntmps3
  go_wp2_with fail
  refine (new_yes (n := 60) (by omega) W).mono ?_
  rintro e w1 ⟨p, sb, tb, qb, T, P, rfl, h, hin, hbl, hp⟩
  have H1 : Hid (HAt w1 p sb tb qb 60 60 (fun _ => 0) T P ∧ (∀ v, 1 ≤ v → v ≤ 60 → P v ≠ 0) ∧ Below W.heap.size W w1 ∧ (W.heap.size ≤ p ∧ W.heap.size ≤ sb ∧ W.heap.size ≤ tb ∧ W.heap.size ≤ qb)) := Lib.hid ⟨h, hin, hbl, hp⟩
  clear h hin hbl hp
  go_wp2_with fail
  refine (rnew_yes (n := 60) (by omega) w1).mono ?_
  rintro e w2 ⟨rp, rsb, rib, rfl, hr, hbl, hp1, hp2, hp3⟩
  have H2 : Hid (Both W.heap.size w2 p rp 60 ∧ Below W.heap.size W w2) := Lib.hid (both_made H1.out.1 H1.out.2.1 H1.out.2.2.1 H1.out.2.2.2 hr hbl ⟨hp1, hp2, hp3⟩)
  clear hr hbl hp1 hp2 hp3 H1
  go_wp2_with fail
  go_loopg [9] (min len 80) (fun gk v9 wr => ∃ i : Nat, v9 = .int .i64 ((i : Nat) : Int) ∧ i + gk = min len 80 ∧ Hid (Both W.heap.size wr p rp 60 ∧ Below W.heap.size W wr))
  case atStart => exact ⟨0, rfl, by omega, H2⟩
  case round =>
    obtain ⟨i, rfl, hgk, HR⟩ := hrel
    clear H2
    have HG := Lib.hid hgk
    have i0 : (0 : Int) ≤ ((i : Nat) : Int) := by omega
    by_cases hlt : i < len ∧ i < 80
    · have g1 : decide (((i : Nat) : Int) < ((len : Nat) : Int)) = true := decide_eq_true (by omega)
      have g2 : ((i : Nat) : Int) < ((len : Nat) : Int) := by omega
      have g3 : decide (((i : Nat) : Int) < 80) = true := decide_eq_true (by omega)
      have g4 : ((i : Nat) : Int) < 80 := by omega
      have s1 := step_i (j := i) (by omega)
      clear hgk
      obtain ⟨x, hx⟩ : ∃ x, X[i]? = some x := ⟨_, List.getElem?_eq_getElem (by rw [← HL.out]; exact hlt.1)⟩
      have hcs : ∃ bl ol, al = some ⟨bl, ol, none⟩ ∧ wr.cell? ⟨bl, ol + i * 3, none⟩ = some (.int .i64 x.d) ∧ wr.cell? ⟨bl, ol + i * 3 + 1, none⟩ = some (.int .i64 x.v) ∧ wr.cell? ⟨bl, ol + i * 3 + 2, none⟩ = some (.float .f64 x.y) := by
        rcases HX.out with h0 | ⟨bl, ol, rfl, hlt, hc⟩
        · rw [h0] at hx; cases hx
        · obtain ⟨c1, c2, c3⟩ := hc i x hx
          exact ⟨bl, ol, rfl, (HR.out.2.cell (p := ⟨bl, _, none⟩) hlt).trans c1, (HR.out.2.cell (p := ⟨bl, _, none⟩) hlt).trans c2, (HR.out.2.cell (p := ⟨bl, _, none⟩) hlt).trans c3⟩
      obtain ⟨bl, ol, hal, c1, c2, c3⟩ := hcs
      obtain ⟨d, v, y⟩ := x
      have HD := Lib.hid (did_any HR.out.1 HR.out.2.size d v y)
      subst hal
      clear hx
      go_wp2_with fail
      refine HD.out.mono ?_
      rintro e w3 ⟨rfl, hb3, hl3⟩
      have HB3 := Lib.hid hb3
      have HL3 := Lib.hid (HR.out.2.trans hl3)
      obtain ⟨sb3, tb3, qb3, rsb3, rib3, m3, S3, T3, P3, R3, I3, h3⟩ := hb3
      have HA := Lib.hid (len_any h3.h.h)
      have HRL := Lib.hid (rlen_any h3.r)
      rw [h3.a.len h3.h.fit] at HRL
      clear h3 hl3
      go_wp2_with fail
      refine HA.out.mono ?_
      rintro e w3 ⟨rfl, rfl⟩
      go_wp2_with fail
      refine HRL.out.mono ?_
      rintro e w3 ⟨rfl, rfl⟩
      go_wp2_with fail
      go_roundg (gk - 1)
      case measure => have := HG.out; omega
      case rel => exact ⟨i + 1, rfl, by have := HG.out; omega, Lib.hid ⟨HB3.out, HL3.out⟩⟩
    · have gA : (¬ i < len) ∨ (i < len ∧ ¬ i < 80) := by omega
      obtain ⟨wA, hwA⟩ : ∃ wA, wA = wr := ⟨_, rfl⟩
      subst hwA
      obtain ⟨gA1, hgA⟩ : ∃ gA, gA = gk := ⟨_, rfl⟩
      subst hgA
      have hbo := HR.out.1
      obtain ⟨sb3, tb3, qb3, rsb3, rib3, m3, S3, T3, P3, R3, I3, h3⟩ := hbo
      have H3 : Hid (Two W.heap.size wA p sb3 tb3 qb3 rp rsb3 rib3 60 m3 S3 T3 P3 R3 I3 ∧ Below W.heap.size W wA) := Lib.hid ⟨h3, HR.out.2⟩
      clear h3 hlt
      rcases gA with hA | ⟨hA, hA2⟩
      · have g1 : decide (((i : Nat) : Int) < ((len : Nat) : Int)) = false := decide_eq_false (by omega)
        have g2 : ¬ ((i : Nat) : Int) < ((len : Nat) : Int) := by omega
        clear hgk
        go_wp2_with fail
        go_loopg [10] (60 + 3) (fun gk v10 wr => ∃ j : Int, v10 = .int .i64 j ∧ -1 ≤ j ∧ j + (gk : Int) = (((60 : Nat) : Int) + 2) ∧ Hid (Two W.heap.size wr p sb3 tb3 qb3 rp rsb3 rib3 60 m3 S3 T3 P3 R3 I3 ∧ Below W.heap.size W wr))
        case atStart => exact ⟨-1, rfl, by omega, by omega, H3⟩
        case round =>
          obtain ⟨j, rfl, hj1, hj2, H4⟩ := hrel
          have HJ := Lib.hid hj2
          clear H3
          by_cases hjn : j ≤ ((60 : Nat) : Int) + 1
          · have t1 : decide (j ≤ 61) = true := decide_eq_true (by omega)
            have t2 : j ≤ 61 := by omega
            have s2 : wrap64 (j + 1) = j + 1 := IntWalk.wrap64_in _ (by omega)
            have HHA := Lib.hid (has_any H4.out.1.h.h j)
            have HRH := Lib.hid (rhas_any H4.out.1.r j)
            have HSC := Lib.hid (fun w' (o : Only [] wr w') => score_any (H4.out.1.same o).h.h j)
            have HRS := Lib.hid (fun w' (o : Only [] wr w') => rscore_any (H4.out.1.same o).r j)
            have HLK := Lib.hid (fun w => like_any (H4.out.1.a.score j) w)
            rw [H4.out.1.a.has j] at HRH
            clear hj2 hjn
            generalize inF 60 P3 j = b at *
            go_wp2_with fail
            refine HHA.out.mono ?_
            rintro e wr ⟨rfl, rfl⟩
            go_wp2_with fail
            refine HRH.out.mono ?_
            rintro e w5 ⟨rfl, q5, rfl⟩
            cases b
            all_goals
              go_wp2_with fail
              refine (HSC.out _ ?_).mono ?_
              exact ⟨rfl, rfl, rfl, Nat.le_refl _, fun _ _ _ => rfl⟩
              rintro e w6 ⟨rfl, rfl⟩
              go_wp2_with fail
              refine (HRS.out _ ?_).mono ?_
              exact ⟨rfl, rfl, rfl, Nat.le_refl _, fun _ _ _ => rfl⟩
              rintro e w6 ⟨rfl, q6, rfl⟩
              go_wp2_with fail
              refine (HLK.out _).mono ?_
              rintro e w6 ⟨rfl, rfl⟩
              go_wp2_with fail
              go_roundg (gk - 1)
              case measure => have := HJ.out; omega
              case rel => exact ⟨j + 1, rfl, by omega, by have := HJ.out; omega, Lib.hid ⟨H4.out.1.same ⟨rfl, rfl, rfl, Nat.le_refl _, fun _ _ _ => rfl⟩, H4.out.2.trans ⟨rfl, rfl, rfl, Nat.le_refl _, fun _ _ => rfl⟩⟩⟩
          · have t1 : decide (j ≤ 61) = false := decide_eq_false (by omega)
            have t2 : ¬ j ≤ 61 := by omega
            clear hj2 hjn
            go_wp2_with fail
            refine (lives_any _).mono ?_
            rintro e w6 ⟨rfl, hb6⟩
            go_wp2_with fail
            go_ret
            exact ⟨rfl, H4.out.2.trans (hb6.mono H4.out.2.size)⟩
      · have g1 : decide (((i : Nat) : Int) < ((len : Nat) : Int)) = true := decide_eq_true (by omega)
        have g2 : ((i : Nat) : Int) < ((len : Nat) : Int) := by omega
        have g3 : decide (((i : Nat) : Int) < 80) = false := decide_eq_false (by omega)
        have g4 : ¬ ((i : Nat) : Int) < 80 := by omega
        clear hgk
        go_wp2_with fail
        go_loopg [10] (60 + 3) (fun gk v10 wr => ∃ j : Int, v10 = .int .i64 j ∧ -1 ≤ j ∧ j + (gk : Int) = (((60 : Nat) : Int) + 2) ∧ Hid (Two W.heap.size wr p sb3 tb3 qb3 rp rsb3 rib3 60 m3 S3 T3 P3 R3 I3 ∧ Below W.heap.size W wr))
        case atStart => exact ⟨-1, rfl, by omega, by omega, H3⟩
        case round =>
          obtain ⟨j, rfl, hj1, hj2, H4⟩ := hrel
          have HJ := Lib.hid hj2
          clear H3
          by_cases hjn : j ≤ ((60 : Nat) : Int) + 1
          · have t1 : decide (j ≤ 61) = true := decide_eq_true (by omega)
            have t2 : j ≤ 61 := by omega
            have s2 : wrap64 (j + 1) = j + 1 := IntWalk.wrap64_in _ (by omega)
            have HHA := Lib.hid (has_any H4.out.1.h.h j)
            have HRH := Lib.hid (rhas_any H4.out.1.r j)
            have HSC := Lib.hid (fun w' (o : Only [] wr w') => score_any (H4.out.1.same o).h.h j)
            have HRS := Lib.hid (fun w' (o : Only [] wr w') => rscore_any (H4.out.1.same o).r j)
            have HLK := Lib.hid (fun w => like_any (H4.out.1.a.score j) w)
            rw [H4.out.1.a.has j] at HRH
            clear hj2 hjn
            generalize inF 60 P3 j = b at *
            go_wp2_with fail
            refine HHA.out.mono ?_
            rintro e wr ⟨rfl, rfl⟩
            go_wp2_with fail
            refine HRH.out.mono ?_
            rintro e w5 ⟨rfl, q5, rfl⟩
            cases b
            all_goals
              go_wp2_with fail
              refine (HSC.out _ ?_).mono ?_
              exact ⟨rfl, rfl, rfl, Nat.le_refl _, fun _ _ _ => rfl⟩
              rintro e w6 ⟨rfl, rfl⟩
              go_wp2_with fail
              refine (HRS.out _ ?_).mono ?_
              exact ⟨rfl, rfl, rfl, Nat.le_refl _, fun _ _ _ => rfl⟩
              rintro e w6 ⟨rfl, q6, rfl⟩
              go_wp2_with fail
              refine (HLK.out _).mono ?_
              rintro e w6 ⟨rfl, rfl⟩
              go_wp2_with fail
              go_roundg (gk - 1)
              case measure => have := HJ.out; omega
              case rel => exact ⟨j + 1, rfl, by omega, by have := HJ.out; omega, Lib.hid ⟨H4.out.1.same ⟨rfl, rfl, rfl, Nat.le_refl _, fun _ _ _ => rfl⟩, H4.out.2.trans ⟨rfl, rfl, rfl, Nat.le_refl _, fun _ _ => rfl⟩⟩⟩
          · have t1 : decide (j ≤ 61) = false := decide_eq_false (by omega)
            have t2 : ¬ j ≤ 61 := by omega
            clear hj2 hjn
            go_wp2_with fail
            refine (lives_any _).mono ?_
            rintro e w6 ⟨rfl, hb6⟩
            go_wp2_with fail
            go_ret
            exact ⟨rfl, H4.out.2.trans (hb6.mono H4.out.2.size)⟩
theorem plays_any {al : Option Addr} {X : List Ac} {len cl : Nat} (n : Int) {W : World} (hX : ActsAt W al X) (hlen : len = X.length) : Calls Try.prog 3 #[.int .i64 n, .slice al len cl] W fun e w => e = .returned (.bool true) ∧ Below W.heap.size W w := by
  by_cases h0 : n < 0
  · exact plays_none h0 W
  · by_cases h1 : 60 < n
    · exact plays_many h1 hX hlen
    · obtain ⟨k, rfl⟩ := Int.eq_ofNat_of_zero_le (a := n) (by omega)
      exact plays_few (by omega) hX hlen
end Hp
end Go.Proofs.Ytdajnmlpghgeeaa
