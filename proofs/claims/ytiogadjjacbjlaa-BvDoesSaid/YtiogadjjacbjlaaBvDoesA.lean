/-
  The statement on operators, as a fact on the call.
-/
import Derived.Test.YtiogadjjacbjlaaBvWorks
import Derived.Deep.RegionHeld3
namespace Go.Proofs.Ytiogadjjacbjlaa
open Go.RowKit
namespace Bv
set_option maxHeartbeats 2000000
set_option maxRecDepth 100000

theorem cell_keep {w w' : World} {a : Addr} {x : Value} (hb : Below w.heap.size w w') (h : w.cell? a = some x) : w'.cell? a = some x := (hb.cell (World.block_lt_of_cell? w a h)).trans h

theorem does_ok (o w n v m x1 y1 x2 y2 : Nat) (e1 e2 z : Int) (b : Bool)
    (H1 : Hid (∀ W : World, Calls Try.prog 7 #[.int .u8 o, .agg #[.int .u8 w, .int .u64 n]] W fun e W' => e = .returned (.tuple #[.agg #[.int .u8 x1, .int .u64 y1], .int .i64 e1]) ∧ Below W.heap.size W W'))
    (H2 : Hid (∀ W : World, Calls Try.prog 8 #[.int .u8 o, .agg #[.int .u8 w, .int .u64 n]] W fun e W' => e = .returned (.tuple #[.agg #[.int .u8 x1, .int .u64 y1], .int .i64 e1]) ∧ Below W.heap.size W W'))
    (H3 : Hid (∀ W : World, Calls Try.prog 9 #[.int .u8 o, .agg #[.int .u8 w, .int .u64 n], .agg #[.int .u8 v, .int .u64 m]] W fun e W' => e = .returned (.tuple #[.agg #[.int .u8 x2, .int .u64 y2], .int .i64 e2]) ∧ Below W.heap.size W W'))
    (H4 : Hid (∀ W : World, Calls Try.prog 10 #[.int .u8 o, .agg #[.int .u8 w, .int .u64 n], .agg #[.int .u8 v, .int .u64 m]] W fun e W' => e = .returned (.tuple #[.agg #[.int .u8 x2, .int .u64 y2], .int .i64 e2]) ∧ Below W.heap.size W W'))
    (H5 : Hid (∀ W : World, Calls Try.prog 11 #[.agg #[.int .u8 w, .int .u64 n]] W fun e W' => e = .returned (.bool b) ∧ Below W.heap.size W W'))
    (H6 : Hid (∀ W : World, Calls Try.prog 12 #[.agg #[.int .u8 w, .int .u64 n]] W fun e W' => e = .returned (.bool b) ∧ Below W.heap.size W W'))
    (H7 : Hid (∀ W : World, Calls Try.prog 13 #[.agg #[.int .u8 w, .int .u64 n]] W fun e W' => e = .returned (.int .i64 z) ∧ Below W.heap.size W W'))
    (H8 : Hid (∀ W : World, Calls Try.prog 14 #[.agg #[.int .u8 w, .int .u64 n]] W fun e W' => e = .returned (.int .i64 z) ∧ Below W.heap.size W W')) (W : World) :
    Calls Try.prog 3 #[.int .u8 o, .agg #[.int .u8 w, .int .u64 n], .agg #[.int .u8 v, .int .u64 m]] W fun e W' => e = .returned (.bool true) ∧ Below W.heap.size W W' := by
  go_enter Try.func3, Try.ntmps3
  go_wp2_with fail
  refine (H1.out _).mono ?_; rintro e w1 ⟨rfl, hb1⟩
  have ka : At w1 (W.heap.size) (.int .u8 w) (.int .u64 n) := by have h0 := (((At.new _ _ _ _).alloc _)).keep hb1; simpa using h0
  have la := ka.lt
  have oa := ka
  unfold At at oa
  have kb : At w1 (W.heap.size + 1) (.int .u8 v) (.int .u64 m) := by have h0 := ((At.new _ _ _ _)).keep hb1; simpa using h0
  have lb := kb.lt
  have ob := kb
  unfold At at ob
  go_wp2_with fail
  refine (H2.out _).mono ?_; rintro e w2 ⟨rfl, hb2⟩
  replace ka := ka.go hb2
  replace la := ka.lt
  replace oa := ka
  unfold At at oa
  replace kb := kb.go hb2
  replace lb := kb.lt
  replace ob := kb
  unfold At at ob
  have kx := At.made hb2
  have lx := kx.lt
  have ox := kx
  unfold At at ox
  go_wp2_with fail
  refine (H3.out _).mono ?_; rintro e w3 ⟨rfl, hb3⟩
  replace ka := ka.go hb3
  replace la := ka.lt
  replace oa := ka
  unfold At at oa
  replace kb := kb.go hb3
  replace lb := kb.lt
  replace ob := kb
  unfold At at ob
  replace kx := kx.go hb3
  replace lx := kx.lt
  replace ox := kx
  unfold At at ox
  have ky := At.made hb3
  have ly := ky.lt
  have oy := ky
  unfold At at oy
  go_wp2_with fail
  refine (H4.out _).mono ?_; rintro e w4 ⟨rfl, hb4⟩
  replace ka := ka.go hb4
  replace la := ka.lt
  replace oa := ka
  unfold At at oa
  replace kb := kb.go hb4
  replace lb := kb.lt
  replace ob := kb
  unfold At at ob
  replace kx := kx.go hb4
  replace lx := kx.lt
  replace ox := kx
  unfold At at ox
  replace ky := ky.go hb4
  replace ly := ky.lt
  replace oy := ky
  unfold At at oy
  have kp := At.made hb4
  have lp := kp.lt
  have op := kp
  unfold At at op
  go_wp2_with fail
  have BEL := Lib.hid (bel_alloc (bel_go (bel_go (bel_go (bel_call (bel_alloc (bel_alloc (Below.refl _ _) _) _) hb1) hb2) hb3) hb4) (.cells #[.int .u8 x2, .int .u64 y2] 25)).drew
  have S0 := Lib.hid (And.intro ka (And.intro kx (And.intro ky kp)))
  cases b
  all_goals
    go_region_held3 (fun w' => w'.cell? ⟨W.heap.size, 0, none⟩ = some (.int .u8 w) ∧ w'.cell? ⟨W.heap.size, 1, none⟩ = some (.int .u64 n) ∧ w'.cell? ⟨w1.heap.size, 0, none⟩ = some (.int .u8 x1) ∧ w'.cell? ⟨w1.heap.size, 1, none⟩ = some (.int .u64 y1) ∧ w'.cell? ⟨w2.heap.size, 0, none⟩ = some (.int .u8 x1) ∧ w'.cell? ⟨w2.heap.size, 1, none⟩ = some (.int .u64 y1) ∧ w'.cell? ⟨w3.heap.size, 0, none⟩ = some (.int .u8 x2) ∧ w'.cell? ⟨w3.heap.size, 1, none⟩ = some (.int .u64 y2) ∧ w'.cell? ⟨w4.heap.size, 0, none⟩ = some (.int .u8 x2) ∧ w'.cell? ⟨w4.heap.size, 1, none⟩ = some (.int .u64 y2))
      (first | exact ⟨(ka.alloc _).drew.1, (ka.alloc _).drew.2, (kx.alloc _).drew.1, (kx.alloc _).drew.2, (ky.alloc _).drew.1, (ky.alloc _).drew.2, (kp.alloc _).drew.1, (kp.alloc _).drew.2, (At.new _ _ _ _).drew.1, (At.new _ _ _ _).drew.2⟩ | ((try dsimp only); (try go_split_ands); refine ⟨?_, ?_, ?_, ?_, ?_, ?_, ?_, ?_, ?_, ?_⟩ <;> (first | assumption | (refine cell_keep hbw ?_; assumption))))
      (first | (go_at_call 11; refine (H5.out _).mono ?_; rintro e ww ⟨rfl, hbw⟩) | (go_at_call 12; refine (H6.out _).mono ?_; rintro e ww ⟨rfl, hbw⟩) | (go_at_call 13; refine (H7.out _).mono ?_; rintro e ww ⟨rfl, hbw⟩) | (go_at_call 14; refine (H8.out _).mono ?_; rintro e ww ⟨rfl, hbw⟩) | (go_at_call 15; refine (works_any _).mono ?_; rintro e ww ⟨rfl, hbw⟩))
    go_wp2_with fail
    go_ret
    refine ⟨rfl, ?_⟩
    iterate 5 (refine bel_call ?_ (by assumption))
    exact BEL.out

end Bv
end Go.Proofs.Ytiogadjjacbjlaa
