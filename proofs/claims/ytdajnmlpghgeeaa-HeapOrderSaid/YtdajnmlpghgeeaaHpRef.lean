/-
  The document's heap, in memory, and what its functions answer.
-/
import Derived.Test.YtdajnmlpghgeeaaChecked
import Derived.Deep.LoopGhost
import Derived.BigQuiet
import Derived.Deep.QuietTactic
import Derived.BigGuard
import Derived.IntWalk
import Derived.Lib.Hide
import Derived.Lib.Walk
import Derived.Laws.NewFold
import Derived.Test.YtdajnmlpghgeeaaHpFloat
namespace Go.Proofs.Ytdajnmlpghgeeaa
open Go.RowKit
namespace Hp
set_option maxHeartbeats 1600000
set_option maxRecDepth 100000

theorem rabove_any (a b : Nat) (W : World) : Calls Try.prog 23 #[.float .f64 a, .float .f64 b] W fun e w => e = .returned (.bool (aboveF a b)) ∧ w = W := by
  unfold aboveF
  cases ha : keyF a with
  | none =>
    have o1 : (FloatKind.f64.format.order a a != some .eq) = true := by rw [order_key, ha]; rfl
    go_enter Try.func23, Try.ntmps23
    go_wp2_with fail
    go_ret
    exact ⟨rfl, rfl⟩
  | some p =>
    have o1 : (FloatKind.f64.format.order a a != some .eq) = false := by rw [order_key, ha]; simp [cmpO, compare, compareOfLessAndEq]
    cases hb : keyF b with
    | none =>
      have o2 : (FloatKind.f64.format.order b b != some .eq) = true := by rw [order_key, hb]; rfl
      go_enter Try.func23, Try.ntmps23
      go_wp2_with fail
      go_ret
      exact ⟨rfl, rfl⟩
    | some q =>
      have o2 : (FloatKind.f64.format.order b b != some .eq) = false := by rw [order_key, hb]; simp [cmpO, compare, compareOfLessAndEq]
      have o3 : (FloatKind.f64.format.order a b == some .gt) = decide (q < p) := by
        rw [order_key, ha, hb]
        simp only [cmpO, compare, compareOfLessAndEq]
        by_cases h1 : p < q
        · rw [if_pos h1, decide_eq_false (by omega)]; rfl
        · by_cases h2 : p = q
          · rw [if_neg h1, if_pos h2, decide_eq_false (by omega)]; rfl
          · rw [if_neg h1, if_neg h2, decide_eq_true (by omega)]; rfl
      go_enter Try.func23, Try.ntmps23
      go_wp2_with fail
      go_ret
      exact ⟨by simp , rfl⟩

/-- The document's heap, in memory. -/
structure RHp (w : World) (p sb ib : Nat) (S : List Nat) (I : List Bool) : Prop where
  c0 : w.cell? ⟨p, 0, none⟩ = some (.slice (some ⟨sb, 0, none⟩) S.length S.length)
  c1 : w.cell? ⟨p, 1, none⟩ = some (.slice (some ⟨ib, 0, none⟩) S.length S.length)
  s : ∀ (j x : Nat), S[j]? = some x → w.cell? ⟨sb, j, none⟩ = some (.float .f64 x)
  i : ∀ (j : Nat) (b : Bool), I[j]? = some b → w.cell? ⟨ib, j, none⟩ = some (.bool b)
  fs : ∀ j, w.frozen? ⟨sb, j, none⟩ = false
  fi : ∀ j, w.frozen? ⟨ib, j, none⟩ = false
  len : I.length = S.length
  pos : 1 ≤ S.length ∧ S.length ≤ 1000001
  lt : p < w.heap.size ∧ sb < w.heap.size ∧ ib < w.heap.size
  sep : p ≠ sb ∧ p ≠ ib ∧ sb ≠ ib
def thereP (S : List Nat) (v : Int) : Bool := decide (1 ≤ v) && decide (v < (S.length : Int))
theorem rthere_any {W : World} {p sb ib : Nat} {S : List Nat} {I : List Bool} (h : RHp W p sb ib S I) (v : Int) : Calls Try.prog 31 #[.pointer (some ⟨p, 0, none⟩), .int .i64 v] W fun e w => e = .returned (.bool (thereP S v)) ∧ ∃ q, w = W.drewN q := by
  have c0 := h.c0
  have hp := h.pos
  unfold thereP
  clear h
  by_cases h1 : 1 ≤ v
  · have e1 : decide (1 ≤ v) = true := decide_eq_true h1
    go_enter Try.func31, Try.ntmps31
    go_wp2_with fail
    go_ret
    exact ⟨by simp [e1], 0, rfl⟩
  · have e1 : decide (1 ≤ v) = false := decide_eq_false h1
    go_enter Try.func31, Try.ntmps31
    go_wp2_with fail
    go_ret
    exact ⟨by simp , 0, rfl⟩
end Hp
end Go.Proofs.Ytdajnmlpghgeeaa
