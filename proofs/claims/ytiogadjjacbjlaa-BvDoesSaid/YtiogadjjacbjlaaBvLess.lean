/-
  What the reference's order by worths returns.
-/
import Derived.Test.YtiogadjjacbjlaaBvLoopT
import Derived.Deep.RegionHeld3
namespace Go.Proofs.Ytiogadjjacbjlaa
open Go.RowKit
namespace Bv
set_option maxHeartbeats 1000000
set_option maxRecDepth 100000

theorem rless_any (w n v m : Nat) (s t : Bool) (HS : Hid (∀ W : World, Calls Try.prog 35 #[.agg #[.int .u8 w, .int .u64 n]] W fun e W' => e = .returned (.bool s) ∧ Below W.heap.size W W'))
    (HT : Hid (∀ W : World, Calls Try.prog 35 #[.agg #[.int .u8 v, .int .u64 m]] W fun e W' => e = .returned (.bool t) ∧ Below W.heap.size W W')) (W : World) :
    Calls Try.prog 32 #[.agg #[.int .u8 w, .int .u64 n], .agg #[.int .u8 v, .int .u64 m]] W fun e W' => e = .returned (.bool (if s = t then decide (n < m) else s)) ∧ Below W.heap.size W W' := by
  have ka0 : At ((W.alloc (.cells #[.int .u8 w, .int .u64 n] 25)).alloc (.cells #[.int .u8 v, .int .u64 m] 25)) W.heap.size (.int .u8 w) (.int .u64 n) := (At.new _ _ _ _).alloc _
  have kb0 : At ((W.alloc (.cells #[.int .u8 w, .int .u64 n] 25)).alloc (.cells #[.int .u8 v, .int .u64 m] 25)) (W.heap.size + 1) (.int .u8 v) (.int .u64 m) := by
    have h0 := At.new (W.alloc (.cells #[.int .u8 w, .int .u64 n] 25)) (.int .u8 v) (.int .u64 m) 25
    simpa using h0
  have KA := Lib.hid ka0
  have KB := Lib.hid kb0
  clear ka0 kb0
  cases s <;> cases t
  all_goals
    go_enter Try.func32, Try.ntmps32
    go_wp2_with fail
    go_region_held3 (fun w' => w'.cell? ⟨W.heap.size, 0, none⟩ = some (.int .u8 w) ∧ w'.cell? ⟨W.heap.size, 1, none⟩ = some (.int .u64 n) ∧ w'.cell? ⟨W.heap.size + 1, 0, none⟩ = some (.int .u8 v) ∧ w'.cell? ⟨W.heap.size + 1, 1, none⟩ = some (.int .u64 m))
      (first | exact ⟨KA.out.drew.1, KA.out.drew.2, KB.out.drew.1, KB.out.drew.2⟩ | ((try dsimp only); (try go_split_ands); refine ⟨?_, ?_, ?_, ?_⟩ <;> (rw [(bcell hb).1 _ _ (by first | (simp; done) | (simp; omega) | omega)]; first | assumption | (simp [go_sem]; done))))
      (first | (go_at_call 35; (first | (with_reducible refine (HS.out _).mono ?_) | (with_reducible refine (HT.out _).mono ?_)); rintro e w1 ⟨rfl, hb⟩; have hz : W.heap.size + 1 < w1.heap.size := by have := hb.size; (try simp at this); omega))
    all_goals
      have ka : At w1 W.heap.size (.int .u8 w) (.int .u64 n) := by (try go_split_ands); constructor <;> assumption
      have hbel : Below W.heap.size W w1 := by
        refine bel_call ?_ hb
        refine bel_call ?_ (by assumption)
        exact (bel_alloc (bel_alloc (Below.refl _ _) _) _).drew
      go_wp2_with (first | (go_at_call 35; refine (HS.out _).mono ?_; rintro e w2 ⟨rfl, hb2⟩; have hbel2 := bel_call hbel hb2))
      go_ret
      first | exact ⟨ret_bool (by simp), hbel⟩ | exact ⟨ret_bool (by simp), hbel2⟩
end Bv
end Go.Proofs.Ytiogadjjacbjlaa
