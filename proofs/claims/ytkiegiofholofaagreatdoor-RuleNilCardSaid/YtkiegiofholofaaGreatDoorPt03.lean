/-
What the small functions of layer bv and of its reference return, each as a fact on one call: they return, and what was in memory stays.
What the small functions of layer known return, each as a fact on one call: they return, and what was in memory stays.
What the small functions of layer rule return, each as a fact on one call; two nodes with an operator each, compared.
What the middle functions of layer bv and of its reference return, each as a fact on one call.
What the small functions of layer term return, each as a fact on one call.
-/
import Derived.Test.YtkiegiofholofaaGreatDoorProg
import Derived.Test.YtkiegiofholofaaGreatDoorPt01
import Derived.WalkKit
import Derived.Outline
import Derived.Deep.QuietTactic
import Derived.BigQuiet
import Derived.Below
import Derived.WalkSmall
import Derived.Test.YtkiegiofholofaaGreatDoorPt02
import Derived.Lib.Hide
import Derived.Laws.BitsAllLaws
import Derived.Deep.RegionHeld3
import Derived.Deep.CutRange
namespace Go.Proofs.YtkiegiofholofaaGreatDoor
open Go.RowKit
namespace Bv
set_option maxHeartbeats 400000

theorem ret_u64 {a b : Int} (h : a = b) : Ending.returned (.int .u64 a) = .returned (.int .u64 b) := by rw [h]
theorem ret_i64 {a b : Int} (h : a = b) : Ending.returned (.int .i64 a) = .returned (.int .i64 b) := by rw [h]
theorem ret_bool {a b : Bool} (h : a = b) : Ending.returned (.bool a) = .returned (.bool b) := by rw [h]

theorem mask_any (w : Nat) (h1 : 1 ≤ w) (h2 : w ≤ 64) (W : World) :
    Calls Tryz.prog 120 #[.int .u8 w] W fun e W' => e = .returned (.int .u64 ((2 ^ w - 1 : Nat) : Int)) ∧ W = W' := by
  go_enter Tryz.func120, Tryz.ntmps120
  go_wp2
  go_ret
  exact ⟨ret_u64 (mask_div_int h2), rfl⟩

theorem rmask_any (w : Nat) (h2 : w ≤ 64) (W : World) :
    Calls Tryz.prog 97 #[.int .u8 w] W fun e W' => e = .returned (.int .u64 ((2 ^ w - 1 : Nat) : Int)) ∧ W = W' := by
  by_cases h : w < 64
  · go_enter Tryz.func97, Tryz.ntmps97
    go_wp2
    go_ret
    exact ⟨ret_u64 (rmask64 h), rfl⟩
  · obtain rfl : w = 64 := by omega
    go_enter Tryz.func97, Tryz.ntmps97
    go_wp2
    go_ret
    exact ⟨ret_u64 (by decide), rfl⟩

theorem bit_any (b : Bool) (W : World) :
    Calls Tryz.prog 176 #[.bool b] W fun e W' => e = .returned (.int .u64 ((b.toNat : Nat) : Int)) ∧ W = W' := by
  cases b
  all_goals
    go_enter Tryz.func176, Tryz.ntmps176
    go_wp2
    go_ret
    exact ⟨rfl, rfl⟩

theorem flag_any (b : Bool) (W : World) :
    Calls Tryz.prog 118 #[.bool b] W fun e W' => e = .returned (.agg #[.int .u8 1, .int .u64 ((b.toNat : Nat) : Int)]) ∧ Below W.heap.size W W' := by
  cases b
  all_goals
    go_enter Tryz.func118, Tryz.ntmps118
    go_wp2
    exact bodyPost_ret (v := .agg #[.int .u8 1, .int .u64 _]) (by simp [results, Tryz.results118, go_sem]) rfl ⟨rfl, (Below.refl _ _).alloc (Nat.le_refl _) _⟩

theorem cut_any (w : Nat) (h1 : 1 ≤ w) (h2 : w ≤ 64) (n : Int) (hn0 : 0 ≤ n) (hn : n < 18446744073709551616) (W : World) :
    Calls Tryz.prog 140 #[.int .u8 w, .int .u64 n] W fun e W' => e = .returned (.agg #[.int .u8 w, .int .u64 ((low w n.toNat : Nat) : Int)]) ∧ Below W.heap.size W W' := by
  go_enter Tryz.func140, Tryz.ntmps140
  go_wp2_with (go_at_call 120; refine (mask_any _ h1 h2 _).mono ?_; rintro e w' ⟨rfl, rfl⟩)
  exact bodyPost_ret (v := .agg #[.int .u8 w, .int .u64 ((low w n.toNat : Nat) : Int)]) (by simp [results, Tryz.results140, go_sem, and64 n hn0 hn h2]) rfl ⟨rfl, (Below.refl _ _).alloc (Nat.le_refl _) _⟩

theorem rcut_any (w : Nat) (h2 : w ≤ 64) (n : Int) (hn0 : 0 ≤ n) (hn : n < 18446744073709551616) (W : World) :
    Calls Tryz.prog 66 #[.int .u8 w, .int .u64 n] W fun e W' => e = .returned (.agg #[.int .u8 w, .int .u64 ((low w n.toNat : Nat) : Int)]) ∧ Below W.heap.size W W' := by
  go_enter Tryz.func66, Tryz.ntmps66
  go_wp2_with (go_at_call 97; refine (rmask_any _ h2 _).mono ?_; rintro e w' ⟨rfl, rfl⟩)
  exact bodyPost_ret (v := .agg #[.int .u8 w, .int .u64 ((low w n.toNat : Nat) : Int)]) (by simp [results, Tryz.results66, go_sem, and64 n hn0 hn h2]) rfl ⟨rfl, (Below.refl _ _).alloc (Nat.le_refl _) _⟩

theorem worth_any (w n : Nat) (h1 : 1 ≤ w) (h2 : w ≤ 64) (hn : n < 2 ^ w) (W : World) :
    Calls Tryz.prog 141 #[.agg #[.int .u8 w, .int .u64 n]] W fun e W' => e = .returned (.int .i64 (wo w n)) ∧ Below W.heap.size W W' := by
  go_enter Tryz.func141, Tryz.ntmps141
  go_wp2
  go_ret
  exact ⟨ret_i64 (by unfold wrap64; rw [← IntKind.wrap_i64]; simp only [IntKind.wrap_u64]; exact worth_shift h1 h2 hn), (Below.refl _ _).alloc (Nat.le_refl _) _⟩

theorem rbit_any (w n : Nat) (hn : n < 18446744073709551616) (i : Int) (hi : 0 ≤ i) (hi2 : i < 9223372036854775808) (W : World) :
    Calls Tryz.prog 145 #[.agg #[.int .u8 w, .int .u64 n], .int .i64 i] W fun e W' => e = .returned (.bool (n.testBit i.toNat)) ∧ Below W.heap.size W W' := by
  go_enter Tryz.func145, Tryz.ntmps145
  go_wp2
  go_ret
  exact ⟨ret_bool (bit64 hn hi), (Below.refl _ _).alloc (Nat.le_refl _) _⟩

theorem rsign_any (w n : Nat) (h1 : 1 ≤ w) (h2 : w ≤ 64) (hn : n < 2 ^ w) (W : World) :
    Calls Tryz.prog 144 #[.agg #[.int .u8 w, .int .u64 n]] W fun e W' => e = .returned (.bool (decide (2 ^ (w - 1) ≤ n))) ∧ Below W.heap.size W W' := by
  have hl := pow_le64 h2
  go_enter Tryz.func144, Tryz.ntmps144
  go_wp2_with (go_at_call 145; refine (rbit_any w n (by omega) _ (by omega) (by omega) _).mono ?_; rintro e w1 ⟨rfl, hb⟩)
  go_ret
  exact ⟨ret_bool (by rw [← sign_iff h1 hn]), ((Below.refl _ _).alloc (Nat.le_refl _) _).trans (hb.mono (by simp))⟩

theorem may_any (w n : Nat) (W : World) :
    Calls Tryz.prog 74 #[.agg #[.int .u8 w, .int .u64 n]] W fun e W' => e = .returned (.bool (mayB w n)) ∧ Below W.heap.size W W' := by
  by_cases h1 : 1 ≤ w
  · have d1 : decide ((1 : Int) ≤ (w : Int)) = true := by simp; omega
    by_cases h2 : w ≤ 64
    · have d2 : decide ((w : Int) ≤ (64 : Int)) = true := by simp; omega
      go_enter Tryz.func74, Tryz.ntmps74
      go_wp2
      go_quiet ((go_at_call 120; exact Calls.quiet_of_same ((mask_any w h1 h2 _).mono fun _ _ h => ⟨h.1, h.2.symm⟩)))
      go_wp2
      go_ret
      exact ⟨ret_bool (decide_eq_decide.2 ⟨fun h => ⟨h1, h2, by have := pow_pos' w; omega⟩, fun h => by have := h.2.2; omega⟩), below_drewN ((Below.refl _ _).alloc (Nat.le_refl _) _) _⟩
    · have d2 : decide ((w : Int) ≤ (64 : Int)) = false := by simp; omega
      go_enter Tryz.func74, Tryz.ntmps74
      go_wp2
      go_quiet (fail)
      go_wp2
      go_ret
      exact ⟨ret_bool (by unfold mayB; simp; omega), below_drewN ((Below.refl _ _).alloc (Nat.le_refl _) _) _⟩
  · have d1 : decide ((1 : Int) ≤ (w : Int)) = false := by simp; omega
    go_enter Tryz.func74, Tryz.ntmps74
    go_wp2
    go_quiet (fail)
    go_wp2
    go_ret
    exact ⟨ret_bool (by unfold mayB; simp; omega), below_drewN ((Below.refl _ _).alloc (Nat.le_refl _) _) _⟩

theorem rmay_any (w n : Nat) (hn : n < 18446744073709551616) (W : World) :
    Calls Tryz.prog 77 #[.agg #[.int .u8 w, .int .u64 n]] W fun e W' => e = .returned (.bool (mayB w n)) ∧ Below W.heap.size W W' := by
  by_cases h1 : 1 ≤ w
  · have d1 : decide ((1 : Int) ≤ (w : Int)) = true := by simp; omega
    by_cases h2 : w ≤ 64
    · have d2 : decide ((w : Int) ≤ (64 : Int)) = true := by simp; omega
      by_cases h3 : w = 64
      · have d3 : ((w : Int) == 64) = true := by simp; omega
        go_enter Tryz.func77, Tryz.ntmps77
        go_wp2
        go_ret
        exact ⟨ret_bool (by unfold mayB; subst h3; simp; omega), (Below.refl _ _).alloc (Nat.le_refl _) _⟩
      · have d3 : ((w : Int) == 64) = false := by simp; omega
        go_enter Tryz.func77, Tryz.ntmps77
        go_wp2
        go_ret
        exact ⟨ret_bool (may_shr h1 h2), (Below.refl _ _).alloc (Nat.le_refl _) _⟩
    · have d2 : decide ((w : Int) ≤ (64 : Int)) = false := by simp; omega
      go_enter Tryz.func77, Tryz.ntmps77
      go_wp2
      go_ret
      exact ⟨ret_bool (by unfold mayB; simp; omega), (Below.refl _ _).alloc (Nat.le_refl _) _⟩
  · have d1 : decide ((1 : Int) ≤ (w : Int)) = false := by simp; omega
    go_enter Tryz.func77, Tryz.ntmps77
    go_wp2
    go_ret
    exact ⟨ret_bool (by unfold mayB; simp; omega), (Below.refl _ _).alloc (Nat.le_refl _) _⟩
end Bv
end Go.Proofs.YtkiegiofholofaaGreatDoor

namespace Go.Proofs.YtkiegiofholofaaGreatDoor
open Go.RowKit Bv Tm
namespace Kn
set_option maxHeartbeats 1000000
set_option maxRecDepth 100000

theorem kmask_any (w : Nat) (h1 : 1 ≤ w) (h2 : w ≤ 64) (W : World) :
    Calls Tryz.prog 150 #[.int .u8 w] W fun e W' => e = .returned (.int .u64 ((2 ^ w - 1 : Nat) : Int)) ∧ W = W' := by
  go_enter Tryz.func150, Tryz.ntmps150
  go_wp2
  go_ret
  exact ⟨ret_u64 (mask_div_int h2), rfl⟩

theorem kcut_any (w z o : Nat) (h1 : 1 ≤ w) (h2 : w ≤ 64) (hz : z < 18446744073709551616) (ho : o < 18446744073709551616) (W : World) :
    Calls Tryz.prog 147 #[.int .u8 ((w : Nat) : Int), .int .u64 ((z : Nat) : Int), .int .u64 ((o : Nat) : Int)] W fun e W' => e = .returned (.agg #[.int .u8 ((w : Nat) : Int), .int .u64 ((low w z : Nat) : Int), .int .u64 ((low w o : Nat) : Int)]) ∧ W.alloc (.cells #[.int .u8 ((w : Nat) : Int), .int .u64 ((low w z : Nat) : Int), .int .u64 ((low w o : Nat) : Int)] 161) = W' := by
  have e1 := and64 (z : Int) (by omega) (by omega) h2
  have e2 := and64 (o : Int) (by omega) (by omega) h2
  rw [Int.toNat_natCast] at e1 e2
  go_enter Tryz.func147, Tryz.ntmps147
  go_wp2_with (go_at_call 150; refine (kmask_any _ h1 h2 _).mono ?_; rintro e w' ⟨rfl, rfl⟩)
  exact bodyPost_ret (v := .agg #[.int .u8 w, .int .u64 ((low w z : Nat) : Int), .int .u64 ((low w o : Nat) : Int)]) (by simp [results, Tryz.results147, go_sem]) rfl ⟨rfl, rfl⟩

/-- The same, of numbers that are told by equations. -/
theorem kcut_of (w : Nat) (x y : Int) (z o : Nat) (h1 : 1 ≤ w) (h2 : w ≤ 64) (hz : z < 18446744073709551616) (ho : o < 18446744073709551616) (ex : x = ((z : Nat) : Int)) (ey : y = ((o : Nat) : Int)) (W : World) :
    Calls Tryz.prog 147 #[.int .u8 ((w : Nat) : Int), .int .u64 x, .int .u64 y] W fun e W' => e = .returned (.agg #[.int .u8 ((w : Nat) : Int), .int .u64 ((low w z : Nat) : Int), .int .u64 ((low w o : Nat) : Int)]) ∧ W.alloc (.cells #[.int .u8 ((w : Nat) : Int), .int .u64 ((low w z : Nat) : Int), .int .u64 ((low w o : Nat) : Int)] 161) = W' := by
  subst ex
  subst ey
  exact kcut_any w z o h1 h2 hz ho W

theorem lows_int {m : Nat} (hm : m < 18446744073709551616) : bits .andNot .u64 ((m : Nat) : Int) (IntKind.u64.wrap (((m : Nat) : Int) + 1)) = ((lows m : Nat) : Int) := by
  have e : IntKind.u64.wrap (((m : Nat) : Int) + 1) = (((m + 1) % 18446744073709551616 : Nat) : Int) := by rw [IntKind.wrap_u64]; omega
  rw [e, u64_andNot_nat m _ hm (Nat.mod_lt _ (by decide))]
  rfl
theorem lows_lt (m : Nat) : lows m < 18446744073709551616 := Nat.lt_of_le_of_lt Nat.and_le_right (by omega)

theorem klow_any (m : Nat) (hm : m < 18446744073709551616) (W : World) :
    Calls Tryz.prog 148 #[.int .u64 ((m : Nat) : Int)] W fun e W' => e = .returned (.int .u64 ((lows m : Nat) : Int)) ∧ W = W' := by
  go_enter Tryz.func148, Tryz.ntmps148
  go_wp2
  go_ret
  exact ⟨ret_u64 (lows_int hm), rfl⟩

theorem kspread_any (w n : Nat) (h1 : 1 ≤ w) (h2 : w ≤ 64) (hn : n < 2 ^ w) (W : World) :
    Calls Tryz.prog 151 #[.int .u8 ((w : Nat) : Int), .int .u64 ((n : Nat) : Int)] W fun e W' => e = .returned (.int .i64 (wo w n)) ∧ W = W' := by
  go_enter Tryz.func151, Tryz.ntmps151
  go_wp2
  go_ret
  exact ⟨ret_i64 (by unfold wrap64; rw [← IntKind.wrap_i64]; simp only [IntKind.wrap_u64]; exact worth_shift h1 h2 hn), rfl⟩
end Kn
end Go.Proofs.YtkiegiofholofaaGreatDoor

namespace Go.Proofs.YtkiegiofholofaaGreatDoor
open Go.RowKit Go.Maps Bv Tm Kn
namespace Ru
set_option maxHeartbeats 1000000
set_option maxRecDepth 100000

theorem rkids_any {o : Nat} (h : o ≤ 25) (h0 : ¬ o = 0) (W : World) : Calls Tryz.prog 35 #[.int .u8 ((o : Nat) : Int)] W fun e W' => e = .returned (.int .i64 ((kc o : Nat) : Int)) ∧ W = W' := by
  have hh : o = 1 ∨ o = 2 ∨ o = 3 ∨ o = 4 ∨ o = 5 ∨ o = 6 ∨ o = 7 ∨ o = 8 ∨ o = 9 ∨ o = 10 ∨ o = 11 ∨ o = 12 ∨ o = 13 ∨ o = 14 ∨ o = 15 ∨ o = 16 ∨ o = 17 ∨ o = 18 ∨ o = 19 ∨ o = 20 ∨ o = 21 ∨ o = 22 ∨ o = 23 ∨ o = 24 ∨ o = 25 := by omega
  rcases hh with rfl | rfl | rfl | rfl | rfl | rfl | rfl | rfl | rfl | rfl | rfl | rfl | rfl | rfl | rfl | rfl | rfl | rfl | rfl | rfl | rfl | rfl | rfl | rfl | rfl <;>
  (clear h h0
   simp only [Int.cast_ofNat_Int]
   go_enter Tryz.func35, Tryz.ntmps35
   go_wp2_with fail
   repeat' (first | ((with_reducible refine wp_exit ?_); (repeat (first | (with_reducible refine ex_then ?_) | (with_reducible refine ex_near ?_) | (refine ex_far (by decide) ?_))); (with_reducible refine ex_go ?_)) | go_values | go_skip | go_guarded | go_step | go_upon)
   go_ret
   exact ⟨rfl, rfl⟩)

theorem rmask_any (w : Nat) (h1 : 1 ≤ w) (h2 : w ≤ 64) (W : World) :
    Calls Tryz.prog 85 #[.int .u8 w] W fun e W' => e = .returned (.int .u64 ((2 ^ w - 1 : Nat) : Int)) ∧ W = W' := by
  go_enter Tryz.func85, Tryz.ntmps85
  go_wp2
  go_ret
  exact ⟨ret_u64 (mask_div_int h2), rfl⟩

theorem rconst_any (w n : Int) (W : World) :
    Calls Tryz.prog 79 #[.int .u8 w, .int .u64 n] W fun e W' => e = .returned (.agg #[.int .u8 1, .int .u8 w, .int .i64 0, .int .i64 0, .int .i64 0, .int .u64 n, .int .u8 0]) ∧ W.alloc (.cells #[.int .u8 1, .int .u8 w, .int .i64 0, .int .i64 0, .int .i64 0, .int .u64 n, .int .u8 0] 36) = W' := by
  go_enter Tryz.func79, Tryz.ntmps79
  go_wp2
  exact bodyPost_ret (v := .agg #[.int .u8 1, .int .u8 w, .int .i64 0, .int .i64 0, .int .i64 0, .int .u64 n, .int .u8 0]) (by simp [results, Tryz.results79, go_sem]) rfl ⟨rfl, rfl⟩

/-- What a site holds: the store's place, the node's number, the node, its kids. -/
def siteRow (p : Nat) (k : Nat) (x y0 y1 y2 : Nd) : List Value :=
  [.pointer (some ⟨p, 0, none⟩), .int .i64 ((k : Nat) : Int), .int .u8 x.o, .int .u8 x.w, .int .i64 x.k0, .int .i64 x.k1, .int .i64 x.k2, .int .u64 x.n, .int .u8 x.l,
   .int .u8 y0.o, .int .u8 y0.w, .int .i64 y0.k0, .int .i64 y0.k1, .int .i64 y0.k2, .int .u64 y0.n, .int .u8 y0.l,
   .int .u8 y1.o, .int .u8 y1.w, .int .i64 y1.k0, .int .i64 y1.k1, .int .i64 y1.k2, .int .u64 y1.n, .int .u8 y1.l,
   .int .u8 y2.o, .int .u8 y2.w, .int .i64 y2.k0, .int .i64 y2.k1, .int .i64 y2.k2, .int .u64 y2.n, .int .u8 y2.l]
def SiteAt (w : World) (q p k : Nat) (x y0 y1 y2 : Nd) : Prop := q < w.heap.size ∧ ∀ j u, (siteRow p k x y0 y1 y2)[j]? = some u → w.cell? ⟨q, j, none⟩ = some u
theorem SiteAt.keep {w w' : World} {q p k : Nat} {x y0 y1 y2 : Nd} (h : SiteAt w q p k x y0 y1 y2) (b : Below w.heap.size w w') : SiteAt w' q p k x y0 y1 y2 :=
  ⟨Nat.lt_of_lt_of_le h.1 b.size, fun j u hj => (b.cell (p := ⟨q, j, none⟩) h.1).trans (h.2 j u hj)⟩

theorem skid_0 {w : World} {q p k : Nat} {x y0 y1 y2 : Nd} (h : SiteAt w q p k x y0 y1 y2) :
    Calls Tryz.prog 80 #[.pointer (some ⟨q, 0, none⟩), .int .i64 0] w fun e w' => e = .returned (.tuple #[.int .i64 x.k0, .int .i64 0]) ∧ w = w' := by
  have c := h.2 4 _ rfl
  clear h
  go_enter Tryz.func80, Tryz.ntmps80
  go_wp2
  exact bodyPost_ret (v := .tuple #[.int .i64 x.k0, .int .i64 0]) (by simp [results, Tryz.results80, go_sem]) rfl ⟨rfl, rfl⟩
theorem skid_1 {w : World} {q p k : Nat} {x y0 y1 y2 : Nd} (h : SiteAt w q p k x y0 y1 y2) :
    Calls Tryz.prog 80 #[.pointer (some ⟨q, 0, none⟩), .int .i64 1] w fun e w' => e = .returned (.tuple #[.int .i64 x.k1, .int .i64 0]) ∧ w = w' := by
  have c := h.2 5 _ rfl
  clear h
  go_enter Tryz.func80, Tryz.ntmps80
  go_wp2
  exact bodyPost_ret (v := .tuple #[.int .i64 x.k1, .int .i64 0]) (by simp [results, Tryz.results80, go_sem]) rfl ⟨rfl, rfl⟩
theorem skid_2 {w : World} {q p k : Nat} {x y0 y1 y2 : Nd} (h : SiteAt w q p k x y0 y1 y2) :
    Calls Tryz.prog 80 #[.pointer (some ⟨q, 0, none⟩), .int .i64 2] w fun e w' => e = .returned (.tuple #[.int .i64 x.k2, .int .i64 0]) ∧ w = w' := by
  have c := h.2 6 _ rfl
  clear h
  go_enter Tryz.func80, Tryz.ntmps80
  go_wp2
  exact bodyPost_ret (v := .tuple #[.int .i64 x.k2, .int .i64 0]) (by simp [results, Tryz.results80, go_sem]) rfl ⟨rfl, rfl⟩
theorem mk_ofConsts (q : Nat) (W : World) :
    Calls Tryz.prog 36 #[.pointer (some ⟨q, 0, none⟩)] W fun e W' => e = .returned (.func (.func 78) #[] #[.pointer (some ⟨W.heap.size, 0, none⟩)]) ∧ W.alloc (.cells #[.pointer (some ⟨q, 0, none⟩)] 64) = W' := by
  have hmf : ∀ (fn : Fn) (first cap : Array Value) (w : World), (Instr.makeFunc fn first cap).run Tryz.prog w = .ok (.func fn first cap) w := fun _ _ _ _ => rfl
  go_enter Tryz.func36, Tryz.ntmps36
  go_wp2
  go_ret
  exact ⟨rfl, rfl⟩
theorem mk_ofKnownBits (q : Nat) (W : World) :
    Calls Tryz.prog 37 #[.pointer (some ⟨q, 0, none⟩)] W fun e W' => e = .returned (.func (.func 83) #[] #[.pointer (some ⟨W.heap.size, 0, none⟩)]) ∧ W.alloc (.cells #[.pointer (some ⟨q, 0, none⟩)] 64) = W' := by
  have hmf : ∀ (fn : Fn) (first cap : Array Value) (w : World), (Instr.makeFunc fn first cap).run Tryz.prog w = .ok (.func fn first cap) w := fun _ _ _ _ => rfl
  go_enter Tryz.func37, Tryz.ntmps37
  go_wp2
  go_ret
  exact ⟨rfl, rfl⟩
theorem mk_otherWayRound (q : Nat) (W : World) :
    Calls Tryz.prog 38 #[.pointer (some ⟨q, 0, none⟩)] W fun e W' => e = .returned (.func (.func 86) #[] #[.pointer (some ⟨W.heap.size, 0, none⟩)]) ∧ W.alloc (.cells #[.pointer (some ⟨q, 0, none⟩)] 64) = W' := by
  have hmf : ∀ (fn : Fn) (first cap : Array Value) (w : World), (Instr.makeFunc fn first cap).run Tryz.prog w = .ok (.func fn first cap) w := fun _ _ _ _ => rfl
  go_enter Tryz.func38, Tryz.ntmps38
  go_wp2
  go_ret
  exact ⟨rfl, rfl⟩
theorem mk_withConst (q : Nat) (W : World) :
    Calls Tryz.prog 39 #[.pointer (some ⟨q, 0, none⟩)] W fun e W' => e = .returned (.func (.func 87) #[] #[.pointer (some ⟨W.heap.size, 0, none⟩)]) ∧ W.alloc (.cells #[.pointer (some ⟨q, 0, none⟩)] 64) = W' := by
  have hmf : ∀ (fn : Fn) (first cap : Array Value) (w : World), (Instr.makeFunc fn first cap).run Tryz.prog w = .ok (.func fn first cap) w := fun _ _ _ _ => rfl
  go_enter Tryz.func39, Tryz.ntmps39
  go_wp2
  go_ret
  exact ⟨rfl, rfl⟩
theorem mk_withItself (q : Nat) (W : World) :
    Calls Tryz.prog 40 #[.pointer (some ⟨q, 0, none⟩)] W fun e W' => e = .returned (.func (.func 89) #[] #[.pointer (some ⟨W.heap.size, 0, none⟩)]) ∧ W.alloc (.cells #[.pointer (some ⟨q, 0, none⟩)] 64) = W' := by
  have hmf : ∀ (fn : Fn) (first cap : Array Value) (w : World), (Instr.makeFunc fn first cap).run Tryz.prog w = .ok (.func fn first cap) w := fun _ _ _ _ => rfl
  go_enter Tryz.func40, Tryz.ntmps40
  go_wp2
  go_ret
  exact ⟨rfl, rfl⟩
theorem mk_doneTwice (q : Nat) (W : World) :
    Calls Tryz.prog 41 #[.pointer (some ⟨q, 0, none⟩)] W fun e W' => e = .returned (.func (.func 90) #[] #[.pointer (some ⟨W.heap.size, 0, none⟩)]) ∧ W.alloc (.cells #[.pointer (some ⟨q, 0, none⟩)] 64) = W' := by
  have hmf : ∀ (fn : Fn) (first cap : Array Value) (w : World), (Instr.makeFunc fn first cap).run Tryz.prog w = .ok (.func fn first cap) w := fun _ _ _ _ => rfl
  go_enter Tryz.func41, Tryz.ntmps41
  go_wp2
  go_ret
  exact ⟨rfl, rfl⟩
theorem mk_choice (q : Nat) (W : World) :
    Calls Tryz.prog 42 #[.pointer (some ⟨q, 0, none⟩)] W fun e W' => e = .returned (.func (.func 91) #[] #[.pointer (some ⟨W.heap.size, 0, none⟩)]) ∧ W.alloc (.cells #[.pointer (some ⟨q, 0, none⟩)] 64) = W' := by
  have hmf : ∀ (fn : Fn) (first cap : Array Value) (w : World), (Instr.makeFunc fn first cap).run Tryz.prog w = .ok (.func fn first cap) w := fun _ _ _ _ => rfl
  go_enter Tryz.func42, Tryz.ntmps42
  go_wp2
  go_ret
  exact ⟨rfl, rfl⟩
theorem mk_partOrWider (q : Nat) (W : World) :
    Calls Tryz.prog 43 #[.pointer (some ⟨q, 0, none⟩)] W fun e W' => e = .returned (.func (.func 92) #[] #[.pointer (some ⟨W.heap.size, 0, none⟩)]) ∧ W.alloc (.cells #[.pointer (some ⟨q, 0, none⟩)] 64) = W' := by
  have hmf : ∀ (fn : Fn) (first cap : Array Value) (w : World), (Instr.makeFunc fn first cap).run Tryz.prog w = .ok (.func fn first cap) w := fun _ _ _ _ => rfl
  go_enter Tryz.func43, Tryz.ntmps43
  go_wp2
  go_ret
  exact ⟨rfl, rfl⟩
theorem mk_compared (q : Nat) (W : World) :
    Calls Tryz.prog 44 #[.pointer (some ⟨q, 0, none⟩)] W fun e W' => e = .returned (.func (.func 94) #[] #[.pointer (some ⟨W.heap.size, 0, none⟩)]) ∧ W.alloc (.cells #[.pointer (some ⟨q, 0, none⟩)] 64) = W' := by
  have hmf : ∀ (fn : Fn) (first cap : Array Value) (w : World), (Instr.makeFunc fn first cap).run Tryz.prog w = .ok (.func fn first cap) w := fun _ _ _ _ => rfl
  go_enter Tryz.func44, Tryz.ntmps44
  go_wp2
  go_ret
  exact ⟨rfl, rfl⟩
end Ru
end Go.Proofs.YtkiegiofholofaaGreatDoor

namespace Go.Proofs.YtkiegiofholofaaGreatDoor
open Go.RowKit
namespace Bv
set_option maxHeartbeats 400000

theorem bcell {W w1 : World} (hb : Below W.heap.size W w1) : (∀ b o, b < W.heap.size → w1.cell? ⟨b, o, none⟩ = W.cell? ⟨b, o, none⟩) ∧ (∀ b o, b < W.heap.size → w1.frozen? ⟨b, o, none⟩ = W.frozen? ⟨b, o, none⟩) :=
  ⟨fun b o h => hb.cell (p := ⟨b, o, none⟩) h, fun b o h => hb.frozen (p := ⟨b, o, none⟩) h⟩
theorem bel_call {W w w' : World} (h : Below W.heap.size W w) (k : Below w.heap.size w w') : Below W.heap.size W w' := h.trans (k.mono h.size)
theorem bel_alloc {W w : World} (h : Below W.heap.size W w) (o : Obj) : Below W.heap.size W (w.alloc o) := h.alloc h.size o
theorem bel_drewN {W w : World} (h : Below W.heap.size W w) (n : Nat) : Below W.heap.size W (w.drewN n) := below_drewN h n

theorem rneg_any (w n : Nat) (h2 : w ≤ 64) (hn : n < 18446744073709551616) (W : World) :
    Calls Tryz.prog 113 #[.agg #[.int .u8 w, .int .u64 n]] W fun e W' => e = .returned (.agg #[.int .u8 w, .int .u64 ((low w (18446744073709551616 - n) : Nat) : Int)]) ∧ Below W.heap.size W W' := by
  go_enter Tryz.func113, Tryz.ntmps113
  go_wp2_with fail
  have e : low w (IntKind.u64.wrap (bits BinOp.xor IntKind.u64 IntKind.u64.max (n : Int) + 1)).toNat = low w (18446744073709551616 - n) := by
    rw [notmax hn, IntKind.wrap_u64, show ((((18446744073709551615 - n : Nat) : Int) + 1) % 18446744073709551616).toNat = (18446744073709551616 - n) % 18446744073709551616 by omega, low_mod64 _ h2]
  refine (rcut_any w h2 _ (by rw [IntKind.wrap_u64]; omega) (by rw [IntKind.wrap_u64]; omega) _).mono ?_
  rw [e]
  rintro e w1 ⟨rfl, hb⟩
  obtain ⟨hc, hf⟩ := bcell hb
  clear e
  go_wp2
  refine bodyPost_ret (v := .agg #[.int .u8 w, .int .u64 ((low w (18446744073709551616 - n) : Nat) : Int)]) (by simp [results, Tryz.results113, go_sem, hc]) rfl ⟨rfl, ?_⟩
  exact ((bel_call (bel_alloc (bel_alloc (Below.refl _ _) _) _) hb).setCell (by simp) _).setCell (by simp) _

theorem width_same (o v w : Nat) (h1 : 5 ≤ o) (h2 : o ≤ 17) (W : World) :
    Calls Tryz.prog 142 #[.int .u8 o, .int .u8 v, .int .u8 w] W fun e W' => e = .returned (.int .u8 ((if v = w then v else 0 : Nat) : Int)) ∧ W = W' := by
  by_cases hvw : v = w
  · subst hvw
    go_enter Tryz.func142, Tryz.ntmps142
    go_wp2
    all_goals (go_ret; exact ⟨rfl, rfl⟩)
  · have d1 : ((v : Int) == (w : Int)) = false := by simp; omega
    go_enter Tryz.func142, Tryz.ntmps142
    go_wp2
    all_goals (go_ret; exact ⟨by simp, rfl⟩)
theorem width_test (o v w : Nat) (h1 : 18 ≤ o) (h2 : o ≤ 20) (W : World) :
    Calls Tryz.prog 142 #[.int .u8 o, .int .u8 v, .int .u8 w] W fun e W' => e = .returned (.int .u8 ((if v = w then 1 else 0 : Nat) : Int)) ∧ W = W' := by
  by_cases hvw : v = w
  · subst hvw
    go_enter Tryz.func142, Tryz.ntmps142
    go_wp2
    all_goals (go_ret; exact ⟨rfl, rfl⟩)
  · have d1 : ((v : Int) == (w : Int)) = false := by simp; omega
    go_enter Tryz.func142, Tryz.ntmps142
    go_wp2
    all_goals (go_ret; exact ⟨by simp, rfl⟩)
theorem width_concat (v w : Nat) (hv : v ≤ 64) (hw : w ≤ 64) (W : World) :
    Calls Tryz.prog 142 #[.int .u8 21, .int .u8 v, .int .u8 w] W fun e W' => e = .returned (.int .u8 ((if v + w ≤ 64 then v + w else 0 : Nat) : Int)) ∧ W = W' := by
  by_cases hvw : v + w ≤ 64
  · have d1 : decide ((v : Int) ≤ 64 - (w : Int)) = true := by simp; omega
    go_enter Tryz.func142, Tryz.ntmps142
    go_wp2
    all_goals (go_ret; exact ⟨by simp, rfl⟩)
  · have d1 : decide ((v : Int) ≤ 64 - (w : Int)) = false := by simp; omega
    go_enter Tryz.func142, Tryz.ntmps142
    go_wp2
    all_goals (go_ret; exact ⟨by simp, rfl⟩)
theorem width_none (o v w : Nat) (h1 : o < 5 ∨ 21 < o) (W : World) :
    Calls Tryz.prog 142 #[.int .u8 o, .int .u8 v, .int .u8 w] W fun e W' => e = .returned (.int .u8 0) ∧ W = W' := by
  rcases h1 with h1 | h1
  all_goals
    go_enter Tryz.func142, Tryz.ntmps142
    go_wp2
    go_ret
    exact ⟨rfl, rfl⟩

end Bv
end Go.Proofs.YtkiegiofholofaaGreatDoor

namespace Go.Proofs.YtkiegiofholofaaGreatDoor
open Go.RowKit Bv
namespace Tm
set_option maxHeartbeats 400000
set_option maxRecDepth 100000

theorem none_nil (W : World) :
    Calls Tryz.prog 23 #[.pointer none] W fun e W' => e = .returned (.bool true) ∧ W = W' := by
  go_enter Tryz.func23, Tryz.ntmps23
  go_wp2
  go_ret
  exact ⟨rfl, rfl⟩

theorem none_zero (p : Nat) (W : World) (h : W.cell? ⟨p, 1, none⟩ = some (.map none)) :
    Calls Tryz.prog 23 #[.pointer (some ⟨p, 0, none⟩)] W fun e W' => e = .returned (.bool true) ∧ W = W' := by
  have q := fun r W => eql_map r W
  go_enter Tryz.func23, Tryz.ntmps23
  go_wp2
  go_ret
  exact ⟨rfl, rfl⟩

theorem none_made (p m : Nat) (W : World) (h : W.cell? ⟨p, 1, none⟩ = some (.map (some m))) :
    Calls Tryz.prog 23 #[.pointer (some ⟨p, 0, none⟩)] W fun e W' => e = .returned (.bool false) ∧ W = W' := by
  have q := fun r W => eql_map r W
  go_enter Tryz.func23, Tryz.ntmps23
  go_wp2
  go_ret
  exact ⟨rfl, rfl⟩

theorem has_any (p : Nat) (sv : Option Addr) (L : List Nd) (c : Nat) (k : Int) (W : World) (h : W.cell? ⟨p, 0, none⟩ = some (.slice sv L.length c)) :
    Calls Tryz.prog 24 #[.pointer (some ⟨p, 0, none⟩), .int .i64 k] W fun e W' => e = .returned (.bool (inB L k)) ∧ W = W' := by
  by_cases h0 : 0 ≤ k
  · have d : decide ((0 : Int) ≤ k) = true := decide_eq_true h0
    go_enter Tryz.func24, Tryz.ntmps24
    go_wp2
    go_ret
    exact ⟨ret_bool (by simp [inB, h0]), rfl⟩
  · have d : decide ((0 : Int) ≤ k) = false := decide_eq_false h0
    go_enter Tryz.func24, Tryz.ntmps24
    go_wp2
    go_ret
    exact ⟨ret_bool (by simp [inB]; omega), rfl⟩

end Tm
end Go.Proofs.YtkiegiofholofaaGreatDoor
