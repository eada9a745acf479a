/-
  What the small functions of layer term return, each as a fact on one call.
-/
import Derived.Test.YthelkbdiedfmfaaGreatTmKey
import Derived.Test.YthelkbdiedfmfaaGreatBvMid
import Derived.Deep.RegionHeld3
import Derived.Deep.CutRange
namespace Go.Proofs.YthelkbdiedfmfaaGreat
open Go.RowKit Bv
namespace Tm
set_option maxHeartbeats 400000
set_option maxRecDepth 100000

theorem none_nil (W : World) :
    Calls Tryz.prog 19 #[.pointer none] W fun e W' => e = .returned (.bool true) ∧ W = W' := by
  go_enter Tryz.func19, Tryz.ntmps19
  go_wp2
  go_ret
  exact ⟨rfl, rfl⟩

theorem none_zero (p : Nat) (W : World) (h : W.cell? ⟨p, 1, none⟩ = some (.map none)) :
    Calls Tryz.prog 19 #[.pointer (some ⟨p, 0, none⟩)] W fun e W' => e = .returned (.bool true) ∧ W = W' := by
  have q := fun r W => eql_map r W
  go_enter Tryz.func19, Tryz.ntmps19
  go_wp2
  go_ret
  exact ⟨rfl, rfl⟩

theorem none_made (p m : Nat) (W : World) (h : W.cell? ⟨p, 1, none⟩ = some (.map (some m))) :
    Calls Tryz.prog 19 #[.pointer (some ⟨p, 0, none⟩)] W fun e W' => e = .returned (.bool false) ∧ W = W' := by
  have q := fun r W => eql_map r W
  go_enter Tryz.func19, Tryz.ntmps19
  go_wp2
  go_ret
  exact ⟨rfl, rfl⟩

theorem has_any (p : Nat) (sv : Option Addr) (L : List Nd) (c : Nat) (k : Int) (W : World) (h : W.cell? ⟨p, 0, none⟩ = some (.slice sv L.length c)) :
    Calls Tryz.prog 20 #[.pointer (some ⟨p, 0, none⟩), .int .i64 k] W fun e W' => e = .returned (.bool (inB L k)) ∧ W = W' := by
  by_cases h0 : 0 ≤ k
  · have d : decide ((0 : Int) ≤ k) = true := decide_eq_true h0
    go_enter Tryz.func20, Tryz.ntmps20
    go_wp2
    go_ret
    exact ⟨ret_bool (by simp [inB, h0]), rfl⟩
  · have d : decide ((0 : Int) ≤ k) = false := decide_eq_false h0
    go_enter Tryz.func20, Tryz.ntmps20
    go_wp2
    go_ret
    exact ⟨ret_bool (by simp [inB]; omega), rfl⟩

end Tm
end Go.Proofs.YthelkbdiedfmfaaGreat
