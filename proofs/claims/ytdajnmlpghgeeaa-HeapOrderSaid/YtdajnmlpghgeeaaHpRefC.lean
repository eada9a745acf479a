/-
  The document's heap: Len, Scale.
-/
import Derived.Test.YtdajnmlpghgeeaaHpRefB
namespace Go.Proofs.Ytdajnmlpghgeeaa
open Go.RowKit
namespace Hp
set_option maxHeartbeats 1600000
set_option maxRecDepth 100000

theorem step_i {j : Nat} (h : j < 9000000000000000000) : wrap64 (((j : Nat) : Int) + 1) = ((j : Nat) : Int) + 1 := by
  have r1 : IntKind.i64.wrap (((j : Nat) : Int) + 1) = ((j : Nat) : Int) + 1 := by rw [IntKind.wrap_i64]; omega
  unfold wrap64
  rw [← IntKind.wrap_i64]; exact r1
def lenP (I : List Bool) (k : Nat) : Nat := (I.take k).tail.count true
theorem lenP_step {I : List Bool} {k : Nat} {b : Bool} (hk : 1 ≤ k) (hb : I[k]? = some b) : lenP I (k + 1) = lenP I k + (if b then 1 else 0) := by
  unfold lenP
  rw [List.take_add_one, hb]
  have hl := (List.getElem?_eq_some_iff.1 hb).1
  rw [List.tail_append_of_ne_nil (by intro e; have := congrArg List.length e; rw [List.length_take] at this; simp only [List.length_nil] at this; omega)]
  rw [List.count_append]
  cases b <;> simp
theorem lenP_one (I : List Bool) : lenP I 1 = 0 := by
  unfold lenP
  cases I <;> simp
theorem lenP_le (I : List Bool) (k : Nat) : lenP I k ≤ I.length := by
  unfold lenP
  refine Nat.le_trans (List.count_le_length) ?_
  simp; omega
theorem rlen_any {W : World} {p sb ib : Nat} {S : List Nat} {I : List Bool} (h : RHp W p sb ib S I) : Calls Try.prog 12 #[.pointer (some ⟨p, 0, none⟩)] W fun e w => e = .returned (.int .i64 ((lenP I S.length : Nat) : Int)) ∧ w = W := by
  have c0 := h.c0
  have c1 := h.c1
  have hp := h.pos
  have HH := Lib.hid h
  clear h
  go_enter Try.func12, Try.ntmps12
  go_wp2_with fail
  go_loopg [3, 4] (S.length - 1) (fun gk v3 v4 wr => ∃ k : Nat, v3 = .int .i64 ((lenP I k : Nat) : Int) ∧ v4 = .int .i64 ((k : Nat) : Int) ∧ k + gk = S.length ∧ 1 ≤ k ∧ wr = W)
  case atStart => exact ⟨1, by rw [lenP_one]; rfl, rfl, by omega, by omega, rfl⟩
  case round =>
    obtain ⟨k, rfl, rfl, hk, h1, rfl⟩ := hrel
    have HK := Lib.hid hk
    have q0 : (0 : Int) ≤ ((k : Nat) : Int) := by omega
    by_cases hlt : k < S.length
    · obtain ⟨b, hb⟩ : ∃ b, I[k]? = some b := ⟨_, List.getElem?_eq_getElem (by rw [HH.out.len]; exact hlt)⟩
      have hI := HH.out.i k b hb
      have q1 : ((k : Nat) : Int) < ((S.length : Nat) : Int) := by omega
      have hs := step_i (j := k) (by omega)
      have hle := lenP_le I k
      have hn := step_i (j := lenP I k) (by have := HH.out.len; omega)
      have HL := Lib.hid (lenP_step h1 hb)
      clear hk hb hle
      cases b with
      | true =>
        go_wp2_with fail
        go_roundg (gk - 1)
        case measure => have := HK.out; omega
        case rel => exact ⟨k + 1, by rw [HL.out]; rfl, rfl, by have := HK.out; omega, by omega, rfl⟩
      | false =>
        go_wp2_with fail
        go_roundg (gk - 1)
        case measure => have := HK.out; omega
        case rel => exact ⟨k + 1, by rw [HL.out]; rfl, rfl, by have := HK.out; omega, by omega, rfl⟩
    · have q1 : decide (((k : Nat) : Int) < ((S.length : Nat) : Int)) = false := decide_eq_false (by omega)
      obtain rfl : k = S.length := by
        have := HK.out
        omega
      clear hk
      go_wp2_with fail
      go_ret
      exact ⟨rfl, rfl⟩
/-- The scores below k scaled. -/
def Scaled (S : List Nat) (y k : Nat) (T : List Nat) : Prop := T.length = S.length ∧ ∀ (j t : Nat), T[j]? = some t → ∃ x, S[j]? = some x ∧ (if 1 ≤ j ∧ j < k then mayBe (FloatKind.f64.format.mul x y) t else t = x)
theorem Scaled.next {S T : List Nat} {y k x r : Nat} (h : Scaled S y k T) (h1 : 1 ≤ k) (hx : T[k]? = some x) (hr : mayBe (FloatKind.f64.format.mul x y) r) : Scaled S y (k + 1) (T.set k r) := by
  refine ⟨by rw [List.length_set]; exact h.1, fun j t hj => ?_⟩
  by_cases e : j = k
  · subst e
    rw [List.getElem?_set_self (List.getElem?_eq_some_iff.1 hx).1] at hj
    injection hj with hj
    subst hj
    obtain ⟨x0, q1, q2⟩ := h.2 j x hx
    rw [if_neg (by omega)] at q2
    subst q2
    exact ⟨x, q1, by rw [if_pos ⟨h1, by omega⟩]; exact hr⟩
  · rw [List.getElem?_set_ne (fun x => e x.symm)] at hj
    obtain ⟨x0, q1, q2⟩ := h.2 j t hj
    refine ⟨x0, q1, ?_⟩
    by_cases c : 1 ≤ j ∧ j < k
    · rw [if_pos ⟨c.1, by omega⟩]; rw [if_pos c] at q2; exact q2
    · rw [if_neg (by omega)]; rw [if_neg c] at q2; exact q2
def ScaleE (W : World) (p sb ib : Nat) (S : List Nat) (I : List Bool) (y : Nat) (e : Ending) (w : World) : Prop := e = .returned (.tuple #[]) ∧ ∃ T, Scaled S y S.length T ∧ RHp w p sb ib T I ∧ Only [sb, ib] W w
theorem rscale_any {W : World} {p sb ib : Nat} {S : List Nat} {I : List Bool} (h : RHp W p sb ib S I) (y : Nat) : Calls Try.prog 26 #[.pointer (some ⟨p, 0, none⟩), .float .f64 y] W (ScaleE W p sb ib S I y) := by
  have hp := h.pos
  have HH := Lib.hid h
  have hst := store_float
  obtain ⟨m, hm⟩ : ∃ m, m = S.length := ⟨_, rfl⟩
  have HM := Lib.hid hm
  rw [← hm] at hp
  clear h hm
  go_enter Try.func26, Try.ntmps26
  go_wp2_with fail
  go_loopg [4] (m - 1) (fun gk v4 wr => ∃ (k : Nat) (T : List Nat), v4 = .int .i64 ((k : Nat) : Int) ∧ k + gk = m ∧ 1 ≤ k ∧ Hid (Scaled S y k T ∧ RHp wr p sb ib T I ∧ Only [sb, ib] W wr))
  case atStart => exact ⟨1, S, rfl, by omega, by omega, Lib.hid ⟨⟨rfl, fun j t hj => ⟨t, hj, by rw [if_neg (by omega)]⟩⟩, HH.out, Only.refl _ _⟩⟩
  case round =>
    obtain ⟨k, T, rfl, hk, h1, HR⟩ := hrel
    have HK := Lib.hid hk
    have q0 : (0 : Int) ≤ ((k : Nat) : Int) := by omega
    have hl : T.length = m := by rw [HM.out]; exact HR.out.1.1
    have c0 := HR.out.2.1.c0
    rw [hl] at c0
    by_cases hlt : k < m
    · obtain ⟨x, hx⟩ : ∃ x, T[k]? = some x := ⟨_, List.getElem?_eq_getElem (by rw [hl]; exact hlt)⟩
      have hI := HR.out.2.1.s k x hx
      have hf := HR.out.2.1.fs k
      have q1 : ((k : Nat) : Int) < ((m : Nat) : Int) := by omega
      have hs := step_i (j := k) (by omega)
      have HX := Lib.hid hx
      have HL := Lib.hid hl
      clear hk hx hl
      cases h9 : FloatKind.f64.format.mul x y with
      | some r =>
        have hrun : ∀ w, (binOp .mul 32 (.float .f64 x) (.float .f64 y)).run Try.prog w = .ok (.float .f64 r) w := fun w => run_float_arith w .mul _ .f64 x y r h9
        go_wp2_with fail
        go_region_with (fail)
        all_goals go_wp2_with fail
        all_goals go_roundg (gk - 1)
        all_goals first | (have := HK.out; omega; done) | exact ⟨k + 1, T.set k r, rfl, by have := HK.out; omega, by omega, Lib.hid ⟨HR.out.1.next h1 HX.out (.inl h9), (HR.out.2.1.drewN 1).setS (by rw [HL.out]; exact hlt) r, (HR.out.2.2.drewN 1).set (by simp) _⟩⟩
      | none =>
        obtain ⟨cut, hcut⟩ : ∃ cut : Nat → Nat, ∀ t, cut t = (Question.nanBits .f64 x y).cut t := ⟨_, fun _ => rfl⟩
        have HCUT : Hid (∀ t, keyF (cut t) = none) := Lib.hid (fun t => by rw [hcut]; exact nan_key _ _ _)
        have hrun : ∀ w, (binOp .mul 32 (.float .f64 x) (.float .f64 y)).run Try.prog w = .ok (.float .f64 (cut (w.tape w.drawn (.nanBits .f64 x y)))) w.drew := fun w => by
          rw [hcut]
          simp [binOp, Op.floatArith, h9, Question.forced]
        clear hcut
        go_wp2_with fail
        go_region_with (fail)
        all_goals go_wp2_with fail
        all_goals go_roundg (gk - 1)
        all_goals first | (have := HK.out; omega; done) | exact ⟨k + 1, T.set k _, rfl, by have := HK.out; omega, by omega, Lib.hid ⟨HR.out.1.next h1 HX.out (.inr ⟨h9, HCUT.out _⟩), (HR.out.2.1.drewN (1 + 1)).setS (by rw [HL.out]; exact hlt) _, (HR.out.2.2.drewN (1 + 1)).set (by simp) _⟩⟩
    · have q1 : decide (((k : Nat) : Int) < ((m : Nat) : Int)) = false := decide_eq_false (by omega)
      obtain rfl : k = m := by omega
      clear hk
      go_wp2_with fail
      refine bodyPost_ret (v := .tuple #[]) (by simp [results, Try.results26, go_sem]) rfl ?_
      exact ⟨rfl, T, by rw [← HM.out]; exact HR.out.1, HR.out.2.1, HR.out.2.2⟩
end Hp
end Go.Proofs.Ytdajnmlpghgeeaa
