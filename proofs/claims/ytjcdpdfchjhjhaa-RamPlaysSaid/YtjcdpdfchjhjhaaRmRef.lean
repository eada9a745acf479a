/-
  The document's memory, and what its functions answer.
-/
import Derived.Test.YtjcdpdfchjhjhaaChecked
import Derived.Test.YtjcdpdfchjhjhaaRmMath
import Derived.Deep.LoopGhost
import Derived.BigQuiet
import Derived.Deep.QuietTactic
import Derived.BigGuard
import Derived.IntWalk
import Derived.Lib.Hide
import Derived.Lib.Walk
namespace Go.Proofs.Ytjcdpdfchjhjhaa
open Go.RowKit
namespace Rm
set_option maxHeartbeats 1600000
set_option maxRecDepth 100000

/-- The document's memory, in memory. -/
structure RfAt (w : World) (p b z : Nat) (f : Nat → Nat) : Prop where
  c0 : w.cell? ⟨p, 0, none⟩ = some (.slice (some ⟨b, 0, none⟩) z z)
  c : ∀ j, j < z → w.cell? ⟨b, j, none⟩ = some (.int .u8 ((f j : Nat) : Int))
  fb : ∀ j, w.frozen? ⟨b, j, none⟩ = false
  by_ : By f
  le : 256 ≤ z ∧ z ≤ 4096
  lt : p < w.heap.size ∧ b < w.heap.size
  sep : p ≠ b
/-- The error of a place. -/
def erP (z a : Nat) (n : Int) : Nat := if n ≠ 1 ∧ n ≠ 2 ∧ n ≠ 4 then 2 else if a < 4096 ∨ 4096 + (z : Int) < a + n then 9 else 0
theorem erP_yes {z a : Nat} {n : Int} (h : erP z a n = 0) : ∃ k : Nat, n = ((k : Nat) : Int) ∧ (k = 1 ∨ k = 2 ∨ k = 4) ∧ 4096 ≤ a ∧ a + k ≤ 4096 + z := by
  unfold erP at h
  split at h
  · cases h
  · split at h
    · cases h
    · exact ⟨n.toNat, by omega, by omega, by omega, by omega⟩
theorem ris_any {W : World} {p b z : Nat} {f : Nat → Nat} (h : RfAt W p b z f) {a : Nat} (ha : a < 4294967296) (n : Int) : Calls Try.prog 18 #[.pointer (some ⟨p, 0, none⟩), .int .u32 ((a : Nat) : Int), .int .i64 n] W fun e w => e = .returned (.int .i64 ((erP z a n : Nat) : Int)) ∧ W = w := by
  have c0 := h.c0
  have hz := h.le
  clear h
  have a0 : (0 : Int) ≤ ((a : Nat) : Int) := by omega
  have z1 : wrap64 (4096 + ((z : Nat) : Int)) = 4096 + ((z : Nat) : Int) := IntWalk.wrap64_in _ (by omega)
  by_cases n1 : n = 1 ∨ n = 2 ∨ n = 4
  · have hn : 1 ≤ n ∧ n ≤ 4 := by omega
    have a2 : wrap64 (((a : Nat) : Int) + n) = ((a : Nat) : Int) + n := IntWalk.wrap64_in _ (by omega)
    by_cases lo : a < 4096
    · have g1 : decide (((a : Nat) : Int) < 4096) = true := decide_eq_true (by omega)
      have HE : erP z a n = 9 := by unfold erP; rw [if_neg (by omega), if_pos (.inl lo)]
      rw [HE]
      rcases n1 with rfl | rfl | rfl
      all_goals (go_enter Try.func18, Try.ntmps18; go_wp2_with fail; go_ret; exact ⟨rfl, rfl⟩)
    · have g1 : decide (((a : Nat) : Int) < 4096) = false := decide_eq_false (by omega)
      by_cases hi : 4096 + (z : Int) < a + n
      · have g2 : decide (4096 + ((z : Nat) : Int) < ((a : Nat) : Int) + n) = true := decide_eq_true hi
        have HE : erP z a n = 9 := by unfold erP; rw [if_neg (by omega), if_pos (.inr hi)]
        rw [HE]
        rcases n1 with rfl | rfl | rfl
        all_goals (go_enter Try.func18, Try.ntmps18; go_wp2_with fail; go_ret; exact ⟨rfl, rfl⟩)
      · have g2 : decide (4096 + ((z : Nat) : Int) < ((a : Nat) : Int) + n) = false := decide_eq_false hi
        have HE : erP z a n = 0 := by unfold erP; rw [if_neg (by omega), if_neg (by omega)]
        rw [HE]
        rcases n1 with rfl | rfl | rfl
        all_goals (go_enter Try.func18, Try.ntmps18; go_wp2_with fail; go_ret; exact ⟨rfl, rfl⟩)
  · have HE : erP z a n = 2 := by unfold erP; rw [if_pos (by omega)]
    rw [HE]
    have e1 : (n != 1) = true := by rw [bne_iff_ne]; omega
    have e2 : (n != 2) = true := by rw [bne_iff_ne]; omega
    have e4 : (n != 4) = true := by rw [bne_iff_ne]; omega
    go_enter Try.func18, Try.ntmps18
    go_wp2_with fail
    go_ret
    exact ⟨rfl, rfl⟩
end Rm
end Go.Proofs.Ytjcdpdfchjhjhaa
