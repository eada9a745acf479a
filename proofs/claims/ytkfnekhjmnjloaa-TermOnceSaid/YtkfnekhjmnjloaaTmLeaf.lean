/-
  What the small functions of layer term return, each as a fact on one call.
-/
import Derived.Test.YtkfnekhjmnjloaaTmKey
import Derived.Test.YtkfnekhjmnjloaaBvMid
import Derived.Deep.RegionHeld3
import Derived.Deep.CutRange
namespace Go.Proofs.Ytkfnekhjmnjloaa
open Go.RowKit Bv
namespace Tm
set_option maxHeartbeats 400000
set_option maxRecDepth 100000

theorem none_nil (W : World) :
    Calls Try.prog 21 #[.pointer none] W fun e W' => e = .returned (.bool true) ∧ W = W' := by
  go_enter Try.func21, Try.ntmps21
  go_wp2
  go_ret
  exact ⟨rfl, rfl⟩

theorem none_zero (p : Nat) (W : World) (h : W.cell? ⟨p, 1, none⟩ = some (.map none)) :
    Calls Try.prog 21 #[.pointer (some ⟨p, 0, none⟩)] W fun e W' => e = .returned (.bool true) ∧ W = W' := by
  have q := fun r W => eql_map r W
  go_enter Try.func21, Try.ntmps21
  go_wp2
  go_ret
  exact ⟨rfl, rfl⟩

theorem none_made (p m : Nat) (W : World) (h : W.cell? ⟨p, 1, none⟩ = some (.map (some m))) :
    Calls Try.prog 21 #[.pointer (some ⟨p, 0, none⟩)] W fun e W' => e = .returned (.bool false) ∧ W = W' := by
  have q := fun r W => eql_map r W
  go_enter Try.func21, Try.ntmps21
  go_wp2
  go_ret
  exact ⟨rfl, rfl⟩

theorem has_any (p : Nat) (sv : Option Addr) (L : List Nd) (c : Nat) (k : Int) (W : World) (h : W.cell? ⟨p, 0, none⟩ = some (.slice sv L.length c)) :
    Calls Try.prog 25 #[.pointer (some ⟨p, 0, none⟩), .int .i64 k] W fun e W' => e = .returned (.bool (inB L k)) ∧ W = W' := by
  by_cases h0 : 0 ≤ k
  · have d : decide ((0 : Int) ≤ k) = true := decide_eq_true h0
    go_enter Try.func25, Try.ntmps25
    go_wp2
    go_ret
    exact ⟨ret_bool (by simp [inB, h0]), rfl⟩
  · have d : decide ((0 : Int) ≤ k) = false := decide_eq_false h0
    go_enter Try.func25, Try.ntmps25
    go_wp2
    go_ret
    exact ⟨ret_bool (by simp [inB]; omega), rfl⟩

theorem len_made (p m : Nat) (sv : Option Addr) (n c : Nat) (W : World) (h : W.cell? ⟨p, 0, none⟩ = some (.slice sv n c)) (hm : W.cell? ⟨p, 1, none⟩ = some (.map (some m))) :
    Calls Try.prog 15 #[.pointer (some ⟨p, 0, none⟩)] W fun e W' => e = .returned (.int .i64 n) ∧ W = W' := by
  go_enter Try.func15, Try.ntmps15
  go_wp2_with (go_at_call 21; refine (none_made p m _ hm).mono ?_; rintro e w' ⟨rfl, rfl⟩)
  go_ret
  exact ⟨rfl, rfl⟩

theorem narrow_ok (w : Int) (h0 : 0 ≤ w) (h1 : w ≤ 255) (W : World) :
    Calls Try.prog 29 #[.int .i64 w] W fun e W' => e = .returned (.int .u8 w) ∧ W = W' := by
  have d0 : decide (w < (0 : Int)) = false := decide_eq_false (by omega)
  have d1 : decide ((255 : Int) < w) = false := decide_eq_false (by omega)
  go_enter Try.func29, Try.ntmps29
  go_wp2
  go_ret
  have e : IntKind.u8.wrap w = w := by simp [IntKind.wrap, IntKind.bits, IntKind.signed]; omega
  first | exact ⟨rfl, rfl⟩ | (rw [e]; exact ⟨rfl, rfl⟩) | (simp only [e]; exact ⟨rfl, rfl⟩)

theorem narrow_bad (w : Int) (h : w < 0 ∨ 255 < w) (W : World) :
    Calls Try.prog 29 #[.int .i64 w] W fun e W' => e = .returned (.int .u8 0) ∧ W = W' := by
  by_cases h0 : w < 0
  · have d0 : decide (w < (0 : Int)) = true := decide_eq_true (by omega)
    go_enter Try.func29, Try.ntmps29
    go_wp2
    go_ret
    exact ⟨rfl, rfl⟩
  · have d0 : decide (w < (0 : Int)) = false := decide_eq_false (by omega)
    have d1 : decide ((255 : Int) < w) = true := decide_eq_true (by omega)
    go_enter Try.func29, Try.ntmps29
    go_wp2
    go_ret
    exact ⟨rfl, rfl⟩
end Tm
end Go.Proofs.Ytkfnekhjmnjloaa
