/-
  Const of layer term, of a store that was made.
-/
import Derived.Test.YthelkbdiedfmfaaGreatTmApi
import Derived.Test.YthelkbdiedfmfaaGreatTmNar
namespace Go.Proofs.YthelkbdiedfmfaaGreat
open Go.RowKit Go.Maps Bv
namespace Tm
set_option maxHeartbeats 1000000
set_option maxRecDepth 100000

theorem narrow_any (w : Int) (W : World) : Calls Tryz.prog 44 #[.int .i64 w] W fun e W' => e = .returned (.int .u8 ((nar w : Nat) : Int)) ∧ W = W' := by
  by_cases h : 0 ≤ w ∧ w ≤ 255
  · have := narrow_ok w h.1 h.2 W
    rw [show ((nar w : Nat) : Int) = w by unfold nar; rw [if_pos h]; omega]
    exact this
  · rw [show nar w = 0 by unfold nar; rw [if_neg h]]
    exact narrow_bad w (by omega) W

theorem const_any {B p m : Nat} {sv : Value} {L : List Nd} {W : World} (S : StoreAt B W p m sv L) (hB : B ≤ W.heap.size) (w : Int) (n : Nat) (hn : n < 18446744073709551616) :
    Calls Tryz.prog 17 #[.pointer (some ⟨p, 0, none⟩), .int .i64 w, .int .u64 n] W (Made B p m sv L (cnd w n) W) := by
  have HM := Lib.hid (make_any (x := cnd w n) S hB (cnd_ok w hn))
  clear S hB
  go_enter Tryz.func17, Tryz.ntmps17
  go_wp2_with (first | (go_at_call 44; refine (narrow_any w _).mono ?_; rintro e w1 ⟨rfl, rfl⟩) | (go_at_call 43; refine HM.out.mono ?_; rintro e w1 ⟨rfl, hm⟩))
  exact bodyPost_ret (v := .tuple #[.int .i64 (((mk L (cnd w n)).2.1 : Nat) : Int), .int .i64 (((mk L (cnd w n)).2.2 : Nat) : Int)]) (by simp [results, Tryz.results17, go_sem]) rfl ⟨rfl, hm⟩

end Tm
end Go.Proofs.YthelkbdiedfmfaaGreat
