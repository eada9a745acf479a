/-
  The statement that Const and Var are Make's, as a fact on the call.
-/
import Derived.Test.YtkfnekhjmnjloaaTmTwo
import Derived.Deep.LoopGhost
import Derived.BigQuiet
namespace Go.Proofs.Ytkfnekhjmnjloaa
open Go.RowKit Go.Maps Bv
namespace Tm
set_option maxHeartbeats 4000000
set_option maxRecDepth 100000

theorem wd6_in {w : Int} {k : Nat} (h : w = ((k : Nat) : Int)) (hk : k ≤ 64) : wd6 w = k := by unfold wd6; rw [if_pos (by omega)]; omega
theorem wd6_out {w : Int} (h : w < 0 ∨ 64 < w) : wd6 w = 0 := by unfold wd6; rw [if_neg (by omega)]
theorem wd6_le (w : Int) : wd6 w ≤ 64 := by unfold wd6; split <;> omega
theorem nm6_lt {n : Int} (h : I64 n) : nm6 n < 18446744073709551616 := by unfold I64 at h; unfold nm6; split <;> omega
theorem c1_ok (w : Int) {c : Nat} (hc : c < 18446744073709551616) : (Nd.mk 1 (wd6 w) 0 0 0 c 0).Ok := ⟨by simp, by have := wd6_le w; show wd6 w ≤ 255; omega, i64_0, i64_0, i64_0, hc, by simp⟩
theorem v1_ok (w : Int) {n : Int} (hn : I64 n) : (Nd.mk 2 (wd6 w) 0 0 0 (nm6 n) 0).Ok := ⟨by simp, by have := wd6_le w; show wd6 w ≤ 255; omega, i64_0, i64_0, i64_0, nm6_lt hn, by simp⟩

/-- The document's Make of a constant, of a variable, in the statement's spelling. -/
theorem two_rc {W w : World} {p m q : Nat} {L1 L2 : List Nd} (h : TwoE W p m q L1 L2 w) (wd Z : Int) (hz : ((wd6 wd : Nat) : Int) = Z) (c : Nat) (hc : c < 18446744073709551616) (a er : Nat) (ha : (mk L2 ⟨1, wd6 wd, 0, 0, 0, c, 0⟩).2.1 = a) (he : (mk L2 ⟨1, wd6 wd, 0, 0, 0, c, 0⟩).2.2 = er) :
    Calls Try.prog 9 #[.pointer (some ⟨q, 0, none⟩), .agg #[.int .u8 1, .int .u8 Z, .int .i64 0, .int .i64 0, .int .i64 0, .int .u64 ((c : Nat) : Int), .int .u8 0]] w fun e w' => e = .returned (.tuple #[.int .i64 ((a : Nat) : Int), .int .i64 ((er : Nat) : Int)]) ∧ TwoE W p m q L1 (mk L2 ⟨1, wd6 wd, 0, 0, 0, c, 0⟩).1 w' := by
  have h2 := two_rmake h (c1_ok wd hc) a er ha he
  unfold Nd.val at h2
  rw [← hz]
  exact h2
theorem two_rv {W w : World} {p m q : Nat} {L1 L2 : List Nd} (h : TwoE W p m q L1 L2 w) (wd Z nv Y : Int) (hz : ((wd6 wd : Nat) : Int) = Z) (hn : I64 nv) (hy : ((nm6 nv : Nat) : Int) = Y) (a er : Nat) (ha : (mk L2 ⟨2, wd6 wd, 0, 0, 0, nm6 nv, 0⟩).2.1 = a) (he : (mk L2 ⟨2, wd6 wd, 0, 0, 0, nm6 nv, 0⟩).2.2 = er) :
    Calls Try.prog 9 #[.pointer (some ⟨q, 0, none⟩), .agg #[.int .u8 2, .int .u8 Z, .int .i64 0, .int .i64 0, .int .i64 0, .int .u64 Y, .int .u8 0]] w fun e w' => e = .returned (.tuple #[.int .i64 ((a : Nat) : Int), .int .i64 ((er : Nat) : Int)]) ∧ TwoE W p m q L1 (mk L2 ⟨2, wd6 wd, 0, 0, 0, nm6 nv, 0⟩).1 w' := by
  have h2 := two_rmake h (v1_ok wd hn) a er ha he
  unfold Nd.val at h2
  rw [← hz, ← hy]
  exact h2

theorem ways_any {W : World} {al : Option Addr} {X : List Nd} {cl n : Nat} {wd nv : Int} {c : Nat} (hX : ArgAt W al X) (hok : ∀ x ∈ X, x.Ok) (hn : n = X.length) (hwd : I64 wd) (hnv : I64 nv) (hc : c < 18446744073709551616) :
    Calls Try.prog 4 #[.slice al n cl, .int .i64 wd, .int .i64 nv, .int .u64 ((c : Nat) : Int)] W fun e W' => e = .returned (.bool true) ∧ Below W.heap.size W W' := by
  have HX := Lib.hid hX
  have HOK := Lib.hid hok
  have HN := Lib.hid hn
  have HWD := Lib.hid hwd
  have HNV := Lib.hid hnv
  have HCC := Lib.hid hc
  clear hX hok hn hwd hnv hc
  go_enter Try.func4, Try.ntmps4
  go_wp2_with (go_at_call 7; refine (new_at W).mono ?_; rintro e v0 ⟨rfl, S0, hb0⟩)
  have HT0 := Lib.hid (two_start S0 hb0)
  clear S0 hb0
  obtain ⟨qq, hqq⟩ : ∃ qq, v0.heap.size = qq := ⟨_, rfl⟩
  rw [hqq] at HT0
  simp only [hqq]
  go_loopg [11] (min n 60) (fun gk u11 wr => ∃ i : Nat, u11 = .int .i64 ((i : Nat) : Int) ∧ i + gk = min n 60 ∧ Loop2 W (W.heap.size + 1) W.heap.size qq n 60 i wr)
  case atStart => exact ⟨0, rfl, by omega, ⟨_, HT0.out⟩, Nat.zero_le _, Nat.zero_le _⟩
  case round =>
    obtain ⟨i, rfl, hgk, ⟨⟨L, hst⟩, hle, hlek⟩⟩ := hrel
    clear HT0 hqq
    by_cases hin : i < n ∧ i < 60
    case pos =>
      obtain ⟨x, hx⟩ : ∃ x, X[i]? = some x := ⟨_, List.getElem?_eq_getElem (by rw [← HN.out]; exact hin.1)⟩
      obtain ⟨bl, ol, rfl, lbl, hcell⟩ := HX.out.at' hx
      have hxok := HOK.out x (List.mem_of_getElem? hx)
      have hb := hst.b
      obtain ⟨f0, f1, f2, f3, f4, f5, f6⟩ := cells_far (hcell wr hb)
      have q1 : ((i : Nat) : Int) < ((n : Nat) : Int) := by omega
      have q2 : ((i : Nat) : Int) < 60 := by omega
      have q0 : (0 : Int) ≤ ((i : Nat) : Int) := by omega
      have r1 : IntKind.i64.wrap (((i : Nat) : Int) + 1) = (((i + 1 : Nat) : Nat) : Int) := by rw [IntKind.wrap_i64]; omega
      have r2 : wrap64 (((i : Nat) : Int) + 1) = (((i + 1 : Nat) : Nat) : Int) := by unfold wrap64; rw [← IntKind.wrap_i64]; exact r1
      have HR2 := Lib.hid r2
      obtain ⟨a, ha⟩ : ∃ a, (mk L x).2.1 = a := ⟨_, rfl⟩
      obtain ⟨er, he⟩ : ∃ er, (mk L x).2.2 = er := ⟨_, rfl⟩
      have HM := Lib.hid (two_make hst hxok a er ha he)
      have HM2 := Lib.hid (fun w1 (h : TwoE W (W.heap.size + 1) W.heap.size qq (mk L x).1 L w1) => two_rmake h hxok a er ha he)
      unfold Nd.val at HM HM2
      have HC := Lib.hid hcell
      have HGK := Lib.hid (And.intro hgk hin)
      clear hst hgk hle hlek hx hcell hxok ha he r1 r2 hb hin
      go_wp2_with (first | (go_at_call 8; refine HM.out.mono ?_; rintro e w1 ⟨rfl, hs1⟩; obtain ⟨g0, g1, g2, g3, g4, g5, g6⟩ := cells_far (HC.out w1 hs1.b); have HS1 := Lib.hid hs1; clear hs1) | (go_at_call 9; refine (HM2.out _ HS1.out).mono ?_; rintro e w2 ⟨rfl, hs2⟩; have HS2 := Lib.hid hs2; clear hs2))
      go_roundg (gk - 1)
      case measure => have := HGK.out; omega
      case rel => exact ⟨i + 1, by first | rfl | (rw [HR2.out]) | (congr 1; exact HR2.out), by have := HGK.out; omega, ⟨_, HS2.out⟩, by have := HGK.out; omega, by have := HGK.out; omega⟩
    case neg =>
      have ex : (n ≤ i) ∨ (i < n ∧ (60 : Int) ≤ ((i : Nat) : Int)) := by omega
      clear hin hgk hle hlek
      have key : ∀ (Z Y : Int), ((wd6 wd : Nat) : Int) = Z → ((nm6 nv : Nat) : Int) = Y → True := fun _ _ _ _ => trivial
      clear key
      obtain ⟨a1, ha1⟩ : ∃ a, (mk L ⟨1, wd6 wd, 0, 0, 0, c, 0⟩).2.1 = a := ⟨_, rfl⟩
      obtain ⟨e1, he1⟩ : ∃ a, (mk L ⟨1, wd6 wd, 0, 0, 0, c, 0⟩).2.2 = a := ⟨_, rfl⟩
      obtain ⟨L1, hL1⟩ : ∃ L1, (mk L ⟨1, wd6 wd, 0, 0, 0, c, 0⟩).1 = L1 := ⟨_, rfl⟩
      obtain ⟨a2, ha2⟩ : ∃ a, (mk L1 ⟨2, wd6 wd, 0, 0, 0, nm6 nv, 0⟩).2.1 = a := ⟨_, rfl⟩
      obtain ⟨e2, he2⟩ : ∃ a, (mk L1 ⟨2, wd6 wd, 0, 0, 0, nm6 nv, 0⟩).2.2 = a := ⟨_, rfl⟩
      have HC1 := two_made (x := cnd wd c) hst (fun sv S hB => const_any S hB wd c HCC.out) (a := a1) (er := e1) (by rw [ways_const]; exact ha1) (by rw [ways_const]; exact he1)
      rw [ways_const, hL1] at HC1
      have HC3 := Lib.hid (fun w1 (h : TwoE W (W.heap.size + 1) W.heap.size qq L1 L1 w1) => two_made (x := vnd wd nv) h (fun sv S hB => var_any S hB wd nv) (a := a2) (er := e2) (by rw [ways_var _ _ _ HNV.out]; exact ha2) (by rw [ways_var _ _ _ HNV.out]; exact he2))
      have HC2 := Lib.hid (fun (Z : Int) hz w1 (h : TwoE W (W.heap.size + 1) W.heap.size qq L1 L w1) => two_rc h wd Z hz c HCC.out a1 e1 ha1 he1)
      rw [hL1] at HC2
      have HC4 := Lib.hid (fun (Z Y : Int) hz hy w1 (h : TwoE W (W.heap.size + 1) W.heap.size qq (mk L1 (vnd wd nv)).1 L1 w1) => two_rv h wd Z nv Y hz HNV.out hy a2 e2 ha2 he2)
      have HCA := Lib.hid HC1
      clear HC1 ha1 he1 hL1 ha2 he2 hst
      have hw3 : wd < 0 ∨ (∃ k : Nat, wd = ((k : Nat) : Int) ∧ k ≤ 64) ∨ (0 ≤ wd ∧ 64 < wd) := by
        by_cases h0 : wd < 0
        · exact .inl h0
        · by_cases h1 : wd ≤ 64
          · exact .inr (.inl ⟨wd.toNat, by omega, by omega⟩)
          · exact .inr (.inr ⟨by omega, by omega⟩)
      have hn2 : nv < 0 ∨ ∃ k : Nat, nv = ((k : Nat) : Int) := by
        by_cases h0 : nv < 0
        · exact .inl h0
        · exact .inr ⟨nv.toNat, by omega⟩
      have hZ : ∃ Z, ((wd6 wd : Nat) : Int) = Z := ⟨_, rfl⟩
      rcases ex with ex | ⟨ex1, ex2⟩ <;> rcases hw3 with hw3 | ⟨wk, rfl, hwk⟩ | ⟨hw3, hw4⟩ <;> rcases hn2 with hn2 | ⟨nk, rfl⟩
      · have HZ := Lib.hid (show ((wd6 wd : Nat) : Int) = 0 by rw [wd6_out (by omega)]; rfl)
        have HY := Lib.hid (show ((nm6 nv : Nat) : Int) = 256 by unfold nm6; rw [if_neg (by omega)]; rfl)
        clear hZ
        go_wp2_with (first | (go_at_call 18; refine HCA.out.mono ?_; rintro e w1 ⟨rfl, hs1⟩; have HS1 := Lib.hid hs1; clear hs1) | (go_at_call 19; refine (HC3.out _ HS2.out).mono ?_; rintro e w1 ⟨rfl, hs1⟩; have HS3 := Lib.hid hs1; clear hs1) | (go_at_call 17; refine (works_any _).mono ?_; rintro e v6 ⟨rfl, hb6⟩) | (go_at_call 9; (with_reducible refine (HC2.out (0) HZ.out _ HS1.out).mono ?_); rintro e w1 ⟨rfl, hs1⟩; have HS2 := Lib.hid hs1; clear hs1) | (go_at_call 9; (with_reducible refine (HC4.out (0) (256) HZ.out HY.out _ HS3.out).mono ?_); rintro e w1 ⟨rfl, hs1⟩; have HS4 := Lib.hid hs1; clear hs1))
        go_ret
        exact ⟨rfl, bel_call HS4.out.b hb6⟩
      · have HZ := Lib.hid (show ((wd6 wd : Nat) : Int) = 0 by rw [wd6_out (by omega)]; rfl)
        have HY := Lib.hid (show ((nm6 ((nk : Nat) : Int) : Nat) : Int) = ((nk : Nat) : Int) by unfold nm6; rw [if_pos (by omega)]; omega)
        have y0 : (0 : Int) ≤ ((nk : Nat) : Int) := by omega
        have y2 : IntKind.u64.wrap ((nk : Nat) : Int) = ((nk : Nat) : Int) := by have := HNV.out; unfold I64 at this; rw [IntKind.wrap_u64]; omega
        clear hZ
        go_wp2_with (first | (go_at_call 18; refine HCA.out.mono ?_; rintro e w1 ⟨rfl, hs1⟩; have HS1 := Lib.hid hs1; clear hs1) | (go_at_call 19; refine (HC3.out _ HS2.out).mono ?_; rintro e w1 ⟨rfl, hs1⟩; have HS3 := Lib.hid hs1; clear hs1) | (go_at_call 17; refine (works_any _).mono ?_; rintro e v6 ⟨rfl, hb6⟩) | (go_at_call 9; (with_reducible refine (HC2.out (0) HZ.out _ HS1.out).mono ?_); rintro e w1 ⟨rfl, hs1⟩; have HS2 := Lib.hid hs1; clear hs1) | (go_at_call 9; (with_reducible refine (HC4.out (0) (((nk : Nat) : Int)) HZ.out HY.out _ HS3.out).mono ?_); rintro e w1 ⟨rfl, hs1⟩; have HS4 := Lib.hid hs1; clear hs1))
        go_ret
        exact ⟨rfl, bel_call HS4.out.b hb6⟩
      · have HZ := Lib.hid (show ((wd6 ((wk : Nat) : Int) : Nat) : Int) = ((wk : Nat) : Int) by rw [wd6_in rfl hwk])
        have z0 : (0 : Int) ≤ ((wk : Nat) : Int) := by omega
        have z1 : ((wk : Nat) : Int) ≤ 64 := by omega
        have z2 : IntKind.u8.wrap ((wk : Nat) : Int) = ((wk : Nat) : Int) := by rw [IntKind.wrap_u8]; omega
        have HY := Lib.hid (show ((nm6 nv : Nat) : Int) = 256 by unfold nm6; rw [if_neg (by omega)]; rfl)
        clear hZ
        go_wp2_with (first | (go_at_call 18; refine HCA.out.mono ?_; rintro e w1 ⟨rfl, hs1⟩; have HS1 := Lib.hid hs1; clear hs1) | (go_at_call 19; refine (HC3.out _ HS2.out).mono ?_; rintro e w1 ⟨rfl, hs1⟩; have HS3 := Lib.hid hs1; clear hs1) | (go_at_call 17; refine (works_any _).mono ?_; rintro e v6 ⟨rfl, hb6⟩) | (go_at_call 9; (with_reducible refine (HC2.out (((wk : Nat) : Int)) HZ.out _ HS1.out).mono ?_); rintro e w1 ⟨rfl, hs1⟩; have HS2 := Lib.hid hs1; clear hs1) | (go_at_call 9; (with_reducible refine (HC4.out (((wk : Nat) : Int)) (256) HZ.out HY.out _ HS3.out).mono ?_); rintro e w1 ⟨rfl, hs1⟩; have HS4 := Lib.hid hs1; clear hs1))
        go_ret
        exact ⟨rfl, bel_call HS4.out.b hb6⟩
      · have HZ := Lib.hid (show ((wd6 ((wk : Nat) : Int) : Nat) : Int) = ((wk : Nat) : Int) by rw [wd6_in rfl hwk])
        have z0 : (0 : Int) ≤ ((wk : Nat) : Int) := by omega
        have z1 : ((wk : Nat) : Int) ≤ 64 := by omega
        have z2 : IntKind.u8.wrap ((wk : Nat) : Int) = ((wk : Nat) : Int) := by rw [IntKind.wrap_u8]; omega
        have HY := Lib.hid (show ((nm6 ((nk : Nat) : Int) : Nat) : Int) = ((nk : Nat) : Int) by unfold nm6; rw [if_pos (by omega)]; omega)
        have y0 : (0 : Int) ≤ ((nk : Nat) : Int) := by omega
        have y2 : IntKind.u64.wrap ((nk : Nat) : Int) = ((nk : Nat) : Int) := by have := HNV.out; unfold I64 at this; rw [IntKind.wrap_u64]; omega
        clear hZ
        go_wp2_with (first | (go_at_call 18; refine HCA.out.mono ?_; rintro e w1 ⟨rfl, hs1⟩; have HS1 := Lib.hid hs1; clear hs1) | (go_at_call 19; refine (HC3.out _ HS2.out).mono ?_; rintro e w1 ⟨rfl, hs1⟩; have HS3 := Lib.hid hs1; clear hs1) | (go_at_call 17; refine (works_any _).mono ?_; rintro e v6 ⟨rfl, hb6⟩) | (go_at_call 9; (with_reducible refine (HC2.out (((wk : Nat) : Int)) HZ.out _ HS1.out).mono ?_); rintro e w1 ⟨rfl, hs1⟩; have HS2 := Lib.hid hs1; clear hs1) | (go_at_call 9; (with_reducible refine (HC4.out (((wk : Nat) : Int)) (((nk : Nat) : Int)) HZ.out HY.out _ HS3.out).mono ?_); rintro e w1 ⟨rfl, hs1⟩; have HS4 := Lib.hid hs1; clear hs1))
        go_ret
        exact ⟨rfl, bel_call HS4.out.b hb6⟩
      · have HZ := Lib.hid (show ((wd6 wd : Nat) : Int) = 0 by rw [wd6_out (by omega)]; rfl)
        have HY := Lib.hid (show ((nm6 nv : Nat) : Int) = 256 by unfold nm6; rw [if_neg (by omega)]; rfl)
        clear hZ
        go_wp2_with (first | (go_at_call 18; refine HCA.out.mono ?_; rintro e w1 ⟨rfl, hs1⟩; have HS1 := Lib.hid hs1; clear hs1) | (go_at_call 19; refine (HC3.out _ HS2.out).mono ?_; rintro e w1 ⟨rfl, hs1⟩; have HS3 := Lib.hid hs1; clear hs1) | (go_at_call 17; refine (works_any _).mono ?_; rintro e v6 ⟨rfl, hb6⟩) | (go_at_call 9; (with_reducible refine (HC2.out (0) HZ.out _ HS1.out).mono ?_); rintro e w1 ⟨rfl, hs1⟩; have HS2 := Lib.hid hs1; clear hs1) | (go_at_call 9; (with_reducible refine (HC4.out (0) (256) HZ.out HY.out _ HS3.out).mono ?_); rintro e w1 ⟨rfl, hs1⟩; have HS4 := Lib.hid hs1; clear hs1))
        go_ret
        exact ⟨rfl, bel_call HS4.out.b hb6⟩
      · have HZ := Lib.hid (show ((wd6 wd : Nat) : Int) = 0 by rw [wd6_out (by omega)]; rfl)
        have HY := Lib.hid (show ((nm6 ((nk : Nat) : Int) : Nat) : Int) = ((nk : Nat) : Int) by unfold nm6; rw [if_pos (by omega)]; omega)
        have y0 : (0 : Int) ≤ ((nk : Nat) : Int) := by omega
        have y2 : IntKind.u64.wrap ((nk : Nat) : Int) = ((nk : Nat) : Int) := by have := HNV.out; unfold I64 at this; rw [IntKind.wrap_u64]; omega
        clear hZ
        go_wp2_with (first | (go_at_call 18; refine HCA.out.mono ?_; rintro e w1 ⟨rfl, hs1⟩; have HS1 := Lib.hid hs1; clear hs1) | (go_at_call 19; refine (HC3.out _ HS2.out).mono ?_; rintro e w1 ⟨rfl, hs1⟩; have HS3 := Lib.hid hs1; clear hs1) | (go_at_call 17; refine (works_any _).mono ?_; rintro e v6 ⟨rfl, hb6⟩) | (go_at_call 9; (with_reducible refine (HC2.out (0) HZ.out _ HS1.out).mono ?_); rintro e w1 ⟨rfl, hs1⟩; have HS2 := Lib.hid hs1; clear hs1) | (go_at_call 9; (with_reducible refine (HC4.out (0) (((nk : Nat) : Int)) HZ.out HY.out _ HS3.out).mono ?_); rintro e w1 ⟨rfl, hs1⟩; have HS4 := Lib.hid hs1; clear hs1))
        go_ret
        exact ⟨rfl, bel_call HS4.out.b hb6⟩
      · have HZ := Lib.hid (show ((wd6 wd : Nat) : Int) = 0 by rw [wd6_out (by omega)]; rfl)
        have HY := Lib.hid (show ((nm6 nv : Nat) : Int) = 256 by unfold nm6; rw [if_neg (by omega)]; rfl)
        clear hZ
        go_wp2_with (first | (go_at_call 18; refine HCA.out.mono ?_; rintro e w1 ⟨rfl, hs1⟩; have HS1 := Lib.hid hs1; clear hs1) | (go_at_call 19; refine (HC3.out _ HS2.out).mono ?_; rintro e w1 ⟨rfl, hs1⟩; have HS3 := Lib.hid hs1; clear hs1) | (go_at_call 17; refine (works_any _).mono ?_; rintro e v6 ⟨rfl, hb6⟩) | (go_at_call 9; (with_reducible refine (HC2.out (0) HZ.out _ HS1.out).mono ?_); rintro e w1 ⟨rfl, hs1⟩; have HS2 := Lib.hid hs1; clear hs1) | (go_at_call 9; (with_reducible refine (HC4.out (0) (256) HZ.out HY.out _ HS3.out).mono ?_); rintro e w1 ⟨rfl, hs1⟩; have HS4 := Lib.hid hs1; clear hs1))
        go_ret
        exact ⟨rfl, bel_call HS4.out.b hb6⟩
      · have HZ := Lib.hid (show ((wd6 wd : Nat) : Int) = 0 by rw [wd6_out (by omega)]; rfl)
        have HY := Lib.hid (show ((nm6 ((nk : Nat) : Int) : Nat) : Int) = ((nk : Nat) : Int) by unfold nm6; rw [if_pos (by omega)]; omega)
        have y0 : (0 : Int) ≤ ((nk : Nat) : Int) := by omega
        have y2 : IntKind.u64.wrap ((nk : Nat) : Int) = ((nk : Nat) : Int) := by have := HNV.out; unfold I64 at this; rw [IntKind.wrap_u64]; omega
        clear hZ
        go_wp2_with (first | (go_at_call 18; refine HCA.out.mono ?_; rintro e w1 ⟨rfl, hs1⟩; have HS1 := Lib.hid hs1; clear hs1) | (go_at_call 19; refine (HC3.out _ HS2.out).mono ?_; rintro e w1 ⟨rfl, hs1⟩; have HS3 := Lib.hid hs1; clear hs1) | (go_at_call 17; refine (works_any _).mono ?_; rintro e v6 ⟨rfl, hb6⟩) | (go_at_call 9; (with_reducible refine (HC2.out (0) HZ.out _ HS1.out).mono ?_); rintro e w1 ⟨rfl, hs1⟩; have HS2 := Lib.hid hs1; clear hs1) | (go_at_call 9; (with_reducible refine (HC4.out (0) (((nk : Nat) : Int)) HZ.out HY.out _ HS3.out).mono ?_); rintro e w1 ⟨rfl, hs1⟩; have HS4 := Lib.hid hs1; clear hs1))
        go_ret
        exact ⟨rfl, bel_call HS4.out.b hb6⟩
      · have HZ := Lib.hid (show ((wd6 ((wk : Nat) : Int) : Nat) : Int) = ((wk : Nat) : Int) by rw [wd6_in rfl hwk])
        have z0 : (0 : Int) ≤ ((wk : Nat) : Int) := by omega
        have z1 : ((wk : Nat) : Int) ≤ 64 := by omega
        have z2 : IntKind.u8.wrap ((wk : Nat) : Int) = ((wk : Nat) : Int) := by rw [IntKind.wrap_u8]; omega
        have HY := Lib.hid (show ((nm6 nv : Nat) : Int) = 256 by unfold nm6; rw [if_neg (by omega)]; rfl)
        clear hZ
        go_wp2_with (first | (go_at_call 18; refine HCA.out.mono ?_; rintro e w1 ⟨rfl, hs1⟩; have HS1 := Lib.hid hs1; clear hs1) | (go_at_call 19; refine (HC3.out _ HS2.out).mono ?_; rintro e w1 ⟨rfl, hs1⟩; have HS3 := Lib.hid hs1; clear hs1) | (go_at_call 17; refine (works_any _).mono ?_; rintro e v6 ⟨rfl, hb6⟩) | (go_at_call 9; (with_reducible refine (HC2.out (((wk : Nat) : Int)) HZ.out _ HS1.out).mono ?_); rintro e w1 ⟨rfl, hs1⟩; have HS2 := Lib.hid hs1; clear hs1) | (go_at_call 9; (with_reducible refine (HC4.out (((wk : Nat) : Int)) (256) HZ.out HY.out _ HS3.out).mono ?_); rintro e w1 ⟨rfl, hs1⟩; have HS4 := Lib.hid hs1; clear hs1))
        go_ret
        exact ⟨rfl, bel_call HS4.out.b hb6⟩
      · have HZ := Lib.hid (show ((wd6 ((wk : Nat) : Int) : Nat) : Int) = ((wk : Nat) : Int) by rw [wd6_in rfl hwk])
        have z0 : (0 : Int) ≤ ((wk : Nat) : Int) := by omega
        have z1 : ((wk : Nat) : Int) ≤ 64 := by omega
        have z2 : IntKind.u8.wrap ((wk : Nat) : Int) = ((wk : Nat) : Int) := by rw [IntKind.wrap_u8]; omega
        have HY := Lib.hid (show ((nm6 ((nk : Nat) : Int) : Nat) : Int) = ((nk : Nat) : Int) by unfold nm6; rw [if_pos (by omega)]; omega)
        have y0 : (0 : Int) ≤ ((nk : Nat) : Int) := by omega
        have y2 : IntKind.u64.wrap ((nk : Nat) : Int) = ((nk : Nat) : Int) := by have := HNV.out; unfold I64 at this; rw [IntKind.wrap_u64]; omega
        clear hZ
        go_wp2_with (first | (go_at_call 18; refine HCA.out.mono ?_; rintro e w1 ⟨rfl, hs1⟩; have HS1 := Lib.hid hs1; clear hs1) | (go_at_call 19; refine (HC3.out _ HS2.out).mono ?_; rintro e w1 ⟨rfl, hs1⟩; have HS3 := Lib.hid hs1; clear hs1) | (go_at_call 17; refine (works_any _).mono ?_; rintro e v6 ⟨rfl, hb6⟩) | (go_at_call 9; (with_reducible refine (HC2.out (((wk : Nat) : Int)) HZ.out _ HS1.out).mono ?_); rintro e w1 ⟨rfl, hs1⟩; have HS2 := Lib.hid hs1; clear hs1) | (go_at_call 9; (with_reducible refine (HC4.out (((wk : Nat) : Int)) (((nk : Nat) : Int)) HZ.out HY.out _ HS3.out).mono ?_); rintro e w1 ⟨rfl, hs1⟩; have HS4 := Lib.hid hs1; clear hs1))
        go_ret
        exact ⟨rfl, bel_call HS4.out.b hb6⟩
      · have HZ := Lib.hid (show ((wd6 wd : Nat) : Int) = 0 by rw [wd6_out (by omega)]; rfl)
        have HY := Lib.hid (show ((nm6 nv : Nat) : Int) = 256 by unfold nm6; rw [if_neg (by omega)]; rfl)
        clear hZ
        go_wp2_with (first | (go_at_call 18; refine HCA.out.mono ?_; rintro e w1 ⟨rfl, hs1⟩; have HS1 := Lib.hid hs1; clear hs1) | (go_at_call 19; refine (HC3.out _ HS2.out).mono ?_; rintro e w1 ⟨rfl, hs1⟩; have HS3 := Lib.hid hs1; clear hs1) | (go_at_call 17; refine (works_any _).mono ?_; rintro e v6 ⟨rfl, hb6⟩) | (go_at_call 9; (with_reducible refine (HC2.out (0) HZ.out _ HS1.out).mono ?_); rintro e w1 ⟨rfl, hs1⟩; have HS2 := Lib.hid hs1; clear hs1) | (go_at_call 9; (with_reducible refine (HC4.out (0) (256) HZ.out HY.out _ HS3.out).mono ?_); rintro e w1 ⟨rfl, hs1⟩; have HS4 := Lib.hid hs1; clear hs1))
        go_ret
        exact ⟨rfl, bel_call HS4.out.b hb6⟩
      · have HZ := Lib.hid (show ((wd6 wd : Nat) : Int) = 0 by rw [wd6_out (by omega)]; rfl)
        have HY := Lib.hid (show ((nm6 ((nk : Nat) : Int) : Nat) : Int) = ((nk : Nat) : Int) by unfold nm6; rw [if_pos (by omega)]; omega)
        have y0 : (0 : Int) ≤ ((nk : Nat) : Int) := by omega
        have y2 : IntKind.u64.wrap ((nk : Nat) : Int) = ((nk : Nat) : Int) := by have := HNV.out; unfold I64 at this; rw [IntKind.wrap_u64]; omega
        clear hZ
        go_wp2_with (first | (go_at_call 18; refine HCA.out.mono ?_; rintro e w1 ⟨rfl, hs1⟩; have HS1 := Lib.hid hs1; clear hs1) | (go_at_call 19; refine (HC3.out _ HS2.out).mono ?_; rintro e w1 ⟨rfl, hs1⟩; have HS3 := Lib.hid hs1; clear hs1) | (go_at_call 17; refine (works_any _).mono ?_; rintro e v6 ⟨rfl, hb6⟩) | (go_at_call 9; (with_reducible refine (HC2.out (0) HZ.out _ HS1.out).mono ?_); rintro e w1 ⟨rfl, hs1⟩; have HS2 := Lib.hid hs1; clear hs1) | (go_at_call 9; (with_reducible refine (HC4.out (0) (((nk : Nat) : Int)) HZ.out HY.out _ HS3.out).mono ?_); rintro e w1 ⟨rfl, hs1⟩; have HS4 := Lib.hid hs1; clear hs1))
        go_ret
        exact ⟨rfl, bel_call HS4.out.b hb6⟩
end Tm
end Go.Proofs.Ytkfnekhjmnjloaa
