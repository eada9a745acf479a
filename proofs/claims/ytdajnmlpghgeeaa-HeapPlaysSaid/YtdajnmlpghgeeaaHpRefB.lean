/-
  The document's heap: Bump.
-/
import Derived.Test.YtdajnmlpghgeeaaHpRefA
import Derived.Deep.RegionWith
namespace Go.Proofs.Ytdajnmlpghgeeaa
open Go.RowKit
namespace Hp
set_option maxHeartbeats 1600000
set_option maxRecDepth 100000

theorem store_float (a : Addr) (r : Nat) (m : Mode) (w : World) : (store a (.float .f64 r) m).run Try.prog w = stored Try.prog w a (.float .f64 r) m := run_store Try.prog w a _ m rfl
/-- What a sum or a product of scores may be. -/
def mayBe (o : Option Nat) (r : Nat) : Prop := o = some r ∨ (o = none ∧ keyF r = none)
theorem mayBe.like {o : Option Nat} {r s : Nat} (h : mayBe o r) (k : mayBe o s) : likeF r s := by
  rcases h with h | h <;> rcases k with k | k
  · rw [h] at k; injection k with k; exact .inl k
  · rw [h] at k; cases k.1
  · rw [k] at h; cases h.1
  · exact .inr ⟨h.2, k.2⟩
def BumpE (W : World) (p sb ib : Nat) (S : List Nat) (I : List Bool) (v : Int) (y : Nat) (e : Ending) (w : World) : Prop := ∃ r, e = .returned (.int .i64 (if thereP S v = true then 0 else 2)) ∧ mayBe (FloatKind.f64.format.add ((S[v.toNat]?).getD 0) y) r ∧ RHp w p sb ib (if thereP S v = true then S.set v.toNat r else S) I ∧ Only [sb, ib] W w
theorem rbump_any {W : World} {p sb ib : Nat} {S : List Nat} {I : List Bool} (h : RHp W p sb ib S I) (v : Int) (y : Nat) : Calls Try.prog 25 #[.pointer (some ⟨p, 0, none⟩), .int .i64 v, .float .f64 y] W (BumpE W p sb ib S I v y) := by
  have HT := Lib.hid (rthere_any h v)
  cases ht : thereP S v with
  | false =>
    have HH := Lib.hid h
    have HTF := Lib.hid ht
    have HR : Hid (∃ r, mayBe (FloatKind.f64.format.add ((S[v.toNat]?).getD 0) y) r) := Lib.hid (by
      cases h9 : FloatKind.f64.format.add ((S[v.toNat]?).getD 0) y with
      | some r => exact ⟨r, .inl rfl⟩
      | none => exact ⟨_, .inr ⟨rfl, nan_key 0 0 0⟩⟩)
    rw [ht] at HT
    clear h ht
    go_enter Try.func25, Try.ntmps25
    go_wp2_with fail
    refine HT.out.mono ?_
    rintro e w ⟨rfl, q, rfl⟩
    go_wp2_with fail
    go_ret
    obtain ⟨r, hr⟩ := HR.out
    exact ⟨r, by rw [HTF.out]; rfl, hr, by rw [HTF.out]; exact HH.out.drewN q, (Only.refl _ _).drewN q⟩
  | true =>
    obtain ⟨n, rfl, hn1, hn2⟩ := there_at ht
    rw [ht] at HT
    obtain ⟨b, hb⟩ : ∃ b, S[n]? = some b := ⟨_, List.getElem?_eq_getElem hn2⟩
    have hI := h.s n b hb
    have c0 := h.c0
    have hp := h.pos
    have hf := h.fs n
    have HH := Lib.hid h
    have HTF := Lib.hid ht
    have HB := Lib.hid hb
    clear h ht
    have hst := store_float
    cases h9 : FloatKind.f64.format.add b y with
    | some r =>
      have hrun : ∀ w, (binOp .add 32 (.float .f64 b) (.float .f64 y)).run Try.prog w = .ok (.float .f64 r) w := fun w => run_float_arith w .add _ .f64 b y r h9
      go_enter Try.func25, Try.ntmps25
      go_wp2_with fail
      refine HT.out.mono ?_
      rintro e w ⟨rfl, q, rfl⟩
      go_wp2_with fail
      go_region_with (fail)
      all_goals go_wp2_with fail
      all_goals go_ret
      all_goals exact ⟨r, by rw [HTF.out]; rfl, .inl (by rw [Int.toNat_natCast, HB.out]; exact h9), by rw [HTF.out, Int.toNat_natCast]; exact (HH.out.drewN (q + 1)).setS hn2 r, ((Only.refl _ _).drewN (q + 1)).set (by simp) _⟩
    | none =>
      obtain ⟨cut, hcut⟩ : ∃ cut : Nat → Nat, ∀ t, cut t = (Question.nanBits .f64 b y).cut t := ⟨_, fun _ => rfl⟩
      have HCUT : Hid (∀ t, keyF (cut t) = none) := Lib.hid (fun t => by rw [hcut]; exact nan_key _ _ _)
      have hrun : ∀ w, (binOp .add 32 (.float .f64 b) (.float .f64 y)).run Try.prog w = .ok (.float .f64 (cut (w.tape w.drawn (.nanBits .f64 b y)))) w.drew := fun w => by
        rw [hcut]
        simp [binOp, Op.floatArith, h9, Question.forced]
      clear hcut
      go_enter Try.func25, Try.ntmps25
      go_wp2_with fail
      refine HT.out.mono ?_
      rintro e w ⟨rfl, q, rfl⟩
      go_wp2_with fail
      go_region_with (fail)
      all_goals go_wp2_with fail
      all_goals go_ret
      all_goals exact ⟨_, by rw [HTF.out]; rfl, .inr ⟨by rw [Int.toNat_natCast, HB.out]; exact h9, HCUT.out _⟩, by rw [HTF.out, Int.toNat_natCast]; exact (HH.out.drewN (q + 1 + 1)).setS hn2 _, ((Only.refl _ _).drewN (q + 1 + 1)).set (by simp) _⟩
end Hp
end Go.Proofs.Ytdajnmlpghgeeaa
