/-
What the small functions of layer bv and of its reference return, each as a fact on one call: they return, and what was in memory stays.
What the middle functions of layer bv and of its reference return, each as a fact on one call.
What divide of layer bv returns.
What binaryNumber of layer bv returns, operator by operator.
What Binary and Unary of layer bv return.
What Unary, Extract, Extend and Ite of layer bv return.
A struct of two cells in a block of its own: kept over calls and new blocks.
Whether a vector may be, as the program tells it, as a fact on the call.
What Extract, Extend and Ite of layer bv return where they refuse, and Ite whole.
-/
import Derived.Test.YtjhghfndhpaapaaProg
import Derived.Test.YtjhghfndhpaapaaBvP1
import Derived.WalkKit
import Derived.Outline
import Derived.Deep.QuietTactic
import Derived.BigQuiet
import Derived.Below
import Derived.WalkSmall
import Derived.Deep.RegionHeld3
import Derived.Lib.Hide
import Derived.Laws.ResultCell
namespace Go.Proofs.Ytjhghfndhpaapaa
open Go.RowKit
namespace Bv
set_option maxHeartbeats 400000

theorem ret_u64 {a b : Int} (h : a = b) : Ending.returned (.int .u64 a) = .returned (.int .u64 b) := by rw [h]
theorem ret_i64 {a b : Int} (h : a = b) : Ending.returned (.int .i64 a) = .returned (.int .i64 b) := by rw [h]
theorem ret_bool {a b : Bool} (h : a = b) : Ending.returned (.bool a) = .returned (.bool b) := by rw [h]

theorem mask_any (w : Nat) (h1 : 1 ≤ w) (h2 : w ≤ 64) (W : World) :
    Calls Try.prog 77 #[.int .u8 w] W fun e W' => e = .returned (.int .u64 ((2 ^ w - 1 : Nat) : Int)) ∧ W = W' := by
  go_enter Try.func77, Try.ntmps77
  go_wp2
  go_ret
  exact ⟨ret_u64 (mask_div_int h2), rfl⟩

theorem rmask_any (w : Nat) (h2 : w ≤ 64) (W : World) :
    Calls Try.prog 53 #[.int .u8 w] W fun e W' => e = .returned (.int .u64 ((2 ^ w - 1 : Nat) : Int)) ∧ W = W' := by
  by_cases h : w < 64
  · go_enter Try.func53, Try.ntmps53
    go_wp2
    go_ret
    exact ⟨ret_u64 (rmask64 h), rfl⟩
  · obtain rfl : w = 64 := by omega
    go_enter Try.func53, Try.ntmps53
    go_wp2
    go_ret
    exact ⟨ret_u64 (by decide), rfl⟩

theorem bit_any (b : Bool) (W : World) :
    Calls Try.prog 81 #[.bool b] W fun e W' => e = .returned (.int .u64 ((b.toNat : Nat) : Int)) ∧ W = W' := by
  cases b
  all_goals
    go_enter Try.func81, Try.ntmps81
    go_wp2
    go_ret
    exact ⟨rfl, rfl⟩

theorem flag_any (b : Bool) (W : World) :
    Calls Try.prog 60 #[.bool b] W fun e W' => e = .returned (.agg #[.int .u8 1, .int .u64 ((b.toNat : Nat) : Int)]) ∧ Below W.heap.size W W' := by
  cases b
  all_goals
    go_enter Try.func60, Try.ntmps60
    go_wp2
    exact bodyPost_ret (v := .agg #[.int .u8 1, .int .u64 _]) (by simp [results, Try.results60, go_sem]) rfl ⟨rfl, (Below.refl _ _).alloc (Nat.le_refl _) _⟩

theorem cut_any (w : Nat) (h1 : 1 ≤ w) (h2 : w ≤ 64) (n : Int) (hn0 : 0 ≤ n) (hn : n < 18446744073709551616) (W : World) :
    Calls Try.prog 62 #[.int .u8 w, .int .u64 n] W fun e W' => e = .returned (.agg #[.int .u8 w, .int .u64 ((low w n.toNat : Nat) : Int)]) ∧ Below W.heap.size W W' := by
  go_enter Try.func62, Try.ntmps62
  go_wp2_with (go_at_call 77; refine (mask_any _ h1 h2 _).mono ?_; rintro e w' ⟨rfl, rfl⟩)
  exact bodyPost_ret (v := .agg #[.int .u8 w, .int .u64 ((low w n.toNat : Nat) : Int)]) (by simp [results, Try.results62, go_sem, and64 n hn0 hn h2]) rfl ⟨rfl, (Below.refl _ _).alloc (Nat.le_refl _) _⟩

theorem rcut_any (w : Nat) (h2 : w ≤ 64) (n : Int) (hn0 : 0 ≤ n) (hn : n < 18446744073709551616) (W : World) :
    Calls Try.prog 33 #[.int .u8 w, .int .u64 n] W fun e W' => e = .returned (.agg #[.int .u8 w, .int .u64 ((low w n.toNat : Nat) : Int)]) ∧ Below W.heap.size W W' := by
  go_enter Try.func33, Try.ntmps33
  go_wp2_with (go_at_call 53; refine (rmask_any _ h2 _).mono ?_; rintro e w' ⟨rfl, rfl⟩)
  exact bodyPost_ret (v := .agg #[.int .u8 w, .int .u64 ((low w n.toNat : Nat) : Int)]) (by simp [results, Try.results33, go_sem, and64 n hn0 hn h2]) rfl ⟨rfl, (Below.refl _ _).alloc (Nat.le_refl _) _⟩

theorem worth_any (w n : Nat) (h1 : 1 ≤ w) (h2 : w ≤ 64) (hn : n < 2 ^ w) (W : World) :
    Calls Try.prog 63 #[.agg #[.int .u8 w, .int .u64 n]] W fun e W' => e = .returned (.int .i64 (wo w n)) ∧ Below W.heap.size W W' := by
  go_enter Try.func63, Try.ntmps63
  go_wp2
  go_ret
  exact ⟨ret_i64 (by unfold wrap64; rw [← IntKind.wrap_i64]; simp only [IntKind.wrap_u64]; exact worth_shift h1 h2 hn), (Below.refl _ _).alloc (Nat.le_refl _) _⟩

theorem rbit_any (w n : Nat) (hn : n < 18446744073709551616) (i : Int) (hi : 0 ≤ i) (hi2 : i < 9223372036854775808) (W : World) :
    Calls Try.prog 79 #[.agg #[.int .u8 w, .int .u64 n], .int .i64 i] W fun e W' => e = .returned (.bool (n.testBit i.toNat)) ∧ Below W.heap.size W W' := by
  go_enter Try.func79, Try.ntmps79
  go_wp2
  go_ret
  exact ⟨ret_bool (bit64 hn hi), (Below.refl _ _).alloc (Nat.le_refl _) _⟩

theorem rsign_any (w n : Nat) (h1 : 1 ≤ w) (h2 : w ≤ 64) (hn : n < 2 ^ w) (W : World) :
    Calls Try.prog 78 #[.agg #[.int .u8 w, .int .u64 n]] W fun e W' => e = .returned (.bool (decide (2 ^ (w - 1) ≤ n))) ∧ Below W.heap.size W W' := by
  have hl := pow_le64 h2
  go_enter Try.func78, Try.ntmps78
  go_wp2_with (go_at_call 79; refine (rbit_any w n (by omega) _ (by omega) (by omega) _).mono ?_; rintro e w1 ⟨rfl, hb⟩)
  go_ret
  exact ⟨ret_bool (by rw [← sign_iff h1 hn]), ((Below.refl _ _).alloc (Nat.le_refl _) _).trans (hb.mono (by simp))⟩

theorem may_any (w n : Nat) (W : World) :
    Calls Try.prog 49 #[.agg #[.int .u8 w, .int .u64 n]] W fun e W' => e = .returned (.bool (mayB w n)) ∧ Below W.heap.size W W' := by
  by_cases h1 : 1 ≤ w
  · have d1 : decide ((1 : Int) ≤ (w : Int)) = true := by simp; omega
    by_cases h2 : w ≤ 64
    · have d2 : decide ((w : Int) ≤ (64 : Int)) = true := by simp; omega
      go_enter Try.func49, Try.ntmps49
      go_wp2
      go_quiet ((go_at_call 77; exact Calls.quiet_of_same ((mask_any w h1 h2 _).mono fun _ _ h => ⟨h.1, h.2.symm⟩)))
      go_wp2
      go_ret
      exact ⟨ret_bool (decide_eq_decide.2 ⟨fun h => ⟨h1, h2, by have := pow_pos' w; omega⟩, fun h => by have := h.2.2; omega⟩), below_drewN ((Below.refl _ _).alloc (Nat.le_refl _) _) _⟩
    · have d2 : decide ((w : Int) ≤ (64 : Int)) = false := by simp; omega
      go_enter Try.func49, Try.ntmps49
      go_wp2
      go_quiet (fail)
      go_wp2
      go_ret
      exact ⟨ret_bool (by unfold mayB; simp; omega), below_drewN ((Below.refl _ _).alloc (Nat.le_refl _) _) _⟩
  · have d1 : decide ((1 : Int) ≤ (w : Int)) = false := by simp; omega
    go_enter Try.func49, Try.ntmps49
    go_wp2
    go_quiet (fail)
    go_wp2
    go_ret
    exact ⟨ret_bool (by unfold mayB; simp; omega), below_drewN ((Below.refl _ _).alloc (Nat.le_refl _) _) _⟩

theorem rmay_any (w n : Nat) (hn : n < 18446744073709551616) (W : World) :
    Calls Try.prog 52 #[.agg #[.int .u8 w, .int .u64 n]] W fun e W' => e = .returned (.bool (mayB w n)) ∧ Below W.heap.size W W' := by
  by_cases h1 : 1 ≤ w
  · have d1 : decide ((1 : Int) ≤ (w : Int)) = true := by simp; omega
    by_cases h2 : w ≤ 64
    · have d2 : decide ((w : Int) ≤ (64 : Int)) = true := by simp; omega
      by_cases h3 : w = 64
      · have d3 : ((w : Int) == 64) = true := by simp; omega
        go_enter Try.func52, Try.ntmps52
        go_wp2
        go_ret
        exact ⟨ret_bool (by unfold mayB; subst h3; simp; omega), (Below.refl _ _).alloc (Nat.le_refl _) _⟩
      · have d3 : ((w : Int) == 64) = false := by simp; omega
        go_enter Try.func52, Try.ntmps52
        go_wp2
        go_ret
        exact ⟨ret_bool (may_shr h1 h2), (Below.refl _ _).alloc (Nat.le_refl _) _⟩
    · have d2 : decide ((w : Int) ≤ (64 : Int)) = false := by simp; omega
      go_enter Try.func52, Try.ntmps52
      go_wp2
      go_ret
      exact ⟨ret_bool (by unfold mayB; simp; omega), (Below.refl _ _).alloc (Nat.le_refl _) _⟩
  · have d1 : decide ((1 : Int) ≤ (w : Int)) = false := by simp; omega
    go_enter Try.func52, Try.ntmps52
    go_wp2
    go_ret
    exact ⟨ret_bool (by unfold mayB; simp; omega), (Below.refl _ _).alloc (Nat.le_refl _) _⟩
end Bv
end Go.Proofs.Ytjhghfndhpaapaa

namespace Go.Proofs.Ytjhghfndhpaapaa
open Go.RowKit
namespace Bv
set_option maxHeartbeats 400000

theorem bcell {W w1 : World} (hb : Below W.heap.size W w1) : (∀ b o, b < W.heap.size → w1.cell? ⟨b, o, none⟩ = W.cell? ⟨b, o, none⟩) ∧ (∀ b o, b < W.heap.size → w1.frozen? ⟨b, o, none⟩ = W.frozen? ⟨b, o, none⟩) :=
  ⟨fun b o h => hb.cell (p := ⟨b, o, none⟩) h, fun b o h => hb.frozen (p := ⟨b, o, none⟩) h⟩
theorem bel_call {W w w' : World} (h : Below W.heap.size W w) (k : Below w.heap.size w w') : Below W.heap.size W w' := h.trans (k.mono h.size)
theorem bel_alloc {W w : World} (h : Below W.heap.size W w) (o : Obj) : Below W.heap.size W (w.alloc o) := h.alloc h.size o
theorem bel_drewN {W w : World} (h : Below W.heap.size W w) (n : Nat) : Below W.heap.size W (w.drewN n) := below_drewN h n

theorem rneg_any (w n : Nat) (h2 : w ≤ 64) (hn : n < 18446744073709551616) (W : World) :
    Calls Try.prog 55 #[.agg #[.int .u8 w, .int .u64 n]] W fun e W' => e = .returned (.agg #[.int .u8 w, .int .u64 ((low w (18446744073709551616 - n) : Nat) : Int)]) ∧ Below W.heap.size W W' := by
  go_enter Try.func55, Try.ntmps55
  go_wp2_with fail
  have e : low w (IntKind.u64.wrap (bits BinOp.xor IntKind.u64 IntKind.u64.max (n : Int) + 1)).toNat = low w (18446744073709551616 - n) := by
    rw [notmax hn, IntKind.wrap_u64, show ((((18446744073709551615 - n : Nat) : Int) + 1) % 18446744073709551616).toNat = (18446744073709551616 - n) % 18446744073709551616 by omega, low_mod64 _ h2]
  refine (rcut_any w h2 _ (by rw [IntKind.wrap_u64]; omega) (by rw [IntKind.wrap_u64]; omega) _).mono ?_
  rw [e]
  rintro e w1 ⟨rfl, hb⟩
  obtain ⟨hc, hf⟩ := bcell hb
  clear e
  go_wp2
  refine bodyPost_ret (v := .agg #[.int .u8 w, .int .u64 ((low w (18446744073709551616 - n) : Nat) : Int)]) (by simp [results, Try.results55, go_sem, hc]) rfl ⟨rfl, ?_⟩
  exact ((bel_call (bel_alloc (bel_alloc (Below.refl _ _) _) _) hb).setCell (by simp) _).setCell (by simp) _

theorem width_same (o v w : Nat) (h1 : 5 ≤ o) (h2 : o ≤ 17) (W : World) :
    Calls Try.prog 64 #[.int .u8 o, .int .u8 v, .int .u8 w] W fun e W' => e = .returned (.int .u8 ((if v = w then v else 0 : Nat) : Int)) ∧ W = W' := by
  by_cases hvw : v = w
  · subst hvw
    go_enter Try.func64, Try.ntmps64
    go_wp2
    all_goals (go_ret; exact ⟨rfl, rfl⟩)
  · have d1 : ((v : Int) == (w : Int)) = false := by simp; omega
    go_enter Try.func64, Try.ntmps64
    go_wp2
    all_goals (go_ret; exact ⟨by simp, rfl⟩)
theorem width_test (o v w : Nat) (h1 : 18 ≤ o) (h2 : o ≤ 20) (W : World) :
    Calls Try.prog 64 #[.int .u8 o, .int .u8 v, .int .u8 w] W fun e W' => e = .returned (.int .u8 ((if v = w then 1 else 0 : Nat) : Int)) ∧ W = W' := by
  by_cases hvw : v = w
  · subst hvw
    go_enter Try.func64, Try.ntmps64
    go_wp2
    all_goals (go_ret; exact ⟨rfl, rfl⟩)
  · have d1 : ((v : Int) == (w : Int)) = false := by simp; omega
    go_enter Try.func64, Try.ntmps64
    go_wp2
    all_goals (go_ret; exact ⟨by simp, rfl⟩)
theorem width_concat (v w : Nat) (hv : v ≤ 64) (hw : w ≤ 64) (W : World) :
    Calls Try.prog 64 #[.int .u8 21, .int .u8 v, .int .u8 w] W fun e W' => e = .returned (.int .u8 ((if v + w ≤ 64 then v + w else 0 : Nat) : Int)) ∧ W = W' := by
  by_cases hvw : v + w ≤ 64
  · have d1 : decide ((v : Int) ≤ 64 - (w : Int)) = true := by simp; omega
    go_enter Try.func64, Try.ntmps64
    go_wp2
    all_goals (go_ret; exact ⟨by simp, rfl⟩)
  · have d1 : decide ((v : Int) ≤ 64 - (w : Int)) = false := by simp; omega
    go_enter Try.func64, Try.ntmps64
    go_wp2
    all_goals (go_ret; exact ⟨by simp, rfl⟩)
theorem width_none (o v w : Nat) (h1 : o < 5 ∨ 21 < o) (W : World) :
    Calls Try.prog 64 #[.int .u8 o, .int .u8 v, .int .u8 w] W fun e W' => e = .returned (.int .u8 0) ∧ W = W' := by
  rcases h1 with h1 | h1
  all_goals
    go_enter Try.func64, Try.ntmps64
    go_wp2
    go_ret
    exact ⟨rfl, rfl⟩

end Bv
end Go.Proofs.Ytjhghfndhpaapaa

namespace Go.Proofs.Ytjhghfndhpaapaa
open Go.RowKit
namespace Bv
set_option maxHeartbeats 400000

theorem div_u (w v n m : Nat) (hn : n < 18446744073709551616) (W : World) :
    Calls Try.prog 80 #[.int .u8 11, .agg #[.int .u8 w, .int .u64 n], .agg #[.int .u8 v, .int .u64 m]] W fun e W' => e = .returned (.int .u64 (numB 11 w v n m : Int)) ∧ Below W.heap.size W W' := by
  by_cases h : m = 0
  · subst h
    go_enter Try.func80, Try.ntmps80
    go_wp2
    go_ret
    exact ⟨rfl, bel_alloc (bel_alloc (Below.refl _ _) _) _⟩
  · have d1 : ((m : Int) == 0) = false := by simp; omega
    have hp : (1 : Int) ≤ (m : Int) := by omega
    go_enter Try.func80, Try.ntmps80
    go_wp2
    go_ret
    exact ⟨ret_u64 (num11 w v n m hn h), bel_alloc (bel_alloc (Below.refl _ _) _) _⟩

theorem div_r (w v n m : Nat) (W : World) :
    Calls Try.prog 80 #[.int .u8 12, .agg #[.int .u8 w, .int .u64 n], .agg #[.int .u8 v, .int .u64 m]] W fun e W' => e = .returned (.int .u64 (numB 12 w v n m : Int)) ∧ Below W.heap.size W W' := by
  by_cases h : m = 0
  · subst h
    go_enter Try.func80, Try.ntmps80
    go_wp2
    go_ret
    exact ⟨rfl, bel_alloc (bel_alloc (Below.refl _ _) _) _⟩
  · have d1 : ((m : Int) == 0) = false := by simp; omega
    have hp : (1 : Int) ≤ (m : Int) := by omega
    go_enter Try.func80, Try.ntmps80
    go_wp2
    go_ret
    refine ⟨ret_u64 (num12 w v n m h), bel_alloc (bel_alloc (Below.refl _ _) _) _⟩

theorem div_s (w v n m : Nat) (hw1 : 1 ≤ w) (hw2 : w ≤ 64) (hn : n < 2 ^ w) (hv1 : 1 ≤ v) (hv2 : v ≤ 64) (hm : m < 2 ^ v) (W : World) :
    Calls Try.prog 80 #[.int .u8 13, .agg #[.int .u8 w, .int .u64 n], .agg #[.int .u8 v, .int .u64 m]] W fun e W' => e = .returned (.int .u64 (numB 13 w v n m : Int)) ∧ Below W.heap.size W W' := by
  by_cases h : m = 0
  · subst h
    go_enter Try.func80, Try.ntmps80
    go_wp2
    go_ret
    exact ⟨rfl, bel_alloc (bel_alloc (Below.refl _ _) _) _⟩
  · have d1 : ((m : Int) == 0) = false := by simp; omega
    have d1' : ((m : Int) != 0) = true := by simp; omega
    have d2 : (wo v m == 0) = false := by simpa using wo_ne hm h
    have d3 : ¬ wo v m = 0 := wo_ne hm h
    go_enter Try.func80, Try.ntmps80
    go_wp2_with fail
    go_region_held3 (fun w' => w'.cell? ⟨W.heap.size, 0, none⟩ = some (.int .u8 w) ∧ w'.cell? ⟨W.heap.size, 1, none⟩ = some (.int .u64 n) ∧ w'.cell? ⟨W.heap.size + 1, 0, none⟩ = some (.int .u8 v) ∧ w'.cell? ⟨W.heap.size + 1, 1, none⟩ = some (.int .u64 m))
      (first | ((try dsimp only); (try go_split_ands); refine ⟨?_, ?_, ?_, ?_⟩ <;> (rw [hc _ _ (by first | (simp; done) | (simp; omega) | omega)]; first | assumption | (simp [go_sem]; done))) | (go_keep; done))
      (first | (go_at_call 63; (first | (with_reducible refine (worth_any w n hw1 hw2 hn _).mono ?_) | (with_reducible refine (worth_any v m hv1 hv2 hm _).mono ?_)); rintro e w1 ⟨rfl, hb⟩; obtain ⟨hc, hf⟩ := bcell hb; have hz : W.heap.size + 1 < w1.heap.size := by have := hb.size; (try simp at this); omega))
    go_wp2
    go_ret
    refine ⟨ret_u64 (num13 w v n m h), ?_⟩
    refine bel_call ?_ hb
    refine bel_call ?_ (by assumption)
    exact (bel_alloc (bel_alloc (Below.refl _ _) _) _).drew

theorem div_sr (w v n m : Nat) (hw1 : 1 ≤ w) (hw2 : w ≤ 64) (hn : n < 2 ^ w) (hv1 : 1 ≤ v) (hv2 : v ≤ 64) (hm : m < 2 ^ v) (W : World) :
    Calls Try.prog 80 #[.int .u8 14, .agg #[.int .u8 w, .int .u64 n], .agg #[.int .u8 v, .int .u64 m]] W fun e W' => e = .returned (.int .u64 (numB 14 w v n m : Int)) ∧ Below W.heap.size W W' := by
  by_cases h : m = 0
  · subst h
    go_enter Try.func80, Try.ntmps80
    go_wp2
    go_ret
    exact ⟨rfl, bel_alloc (bel_alloc (Below.refl _ _) _) _⟩
  · have d1 : ((m : Int) == 0) = false := by simp; omega
    have d1' : ((m : Int) != 0) = true := by simp; omega
    have d2 : (wo v m == 0) = false := by simpa using wo_ne hm h
    have d3 : ¬ wo v m = 0 := wo_ne hm h
    go_enter Try.func80, Try.ntmps80
    go_wp2_with fail
    go_region_held3 (fun w' => w'.cell? ⟨W.heap.size, 0, none⟩ = some (.int .u8 w) ∧ w'.cell? ⟨W.heap.size, 1, none⟩ = some (.int .u64 n) ∧ w'.cell? ⟨W.heap.size + 1, 0, none⟩ = some (.int .u8 v) ∧ w'.cell? ⟨W.heap.size + 1, 1, none⟩ = some (.int .u64 m))
      (first | ((try dsimp only); (try go_split_ands); refine ⟨?_, ?_, ?_, ?_⟩ <;> (rw [hc _ _ (by first | (simp; done) | (simp; omega) | omega)]; first | assumption | (simp [go_sem]; done))) | (go_keep; done))
      (first | (go_at_call 63; (first | (with_reducible refine (worth_any w n hw1 hw2 hn _).mono ?_) | (with_reducible refine (worth_any v m hv1 hv2 hm _).mono ?_)); rintro e w1 ⟨rfl, hb⟩; obtain ⟨hc, hf⟩ := bcell hb; have hz : W.heap.size + 1 < w1.heap.size := by have := hb.size; (try simp at this); omega))
    go_wp2
    go_ret
    refine ⟨ret_u64 (num14 w v n m h), ?_⟩
    refine bel_call ?_ hb
    refine bel_call ?_ (by assumption)
    exact (bel_alloc (bel_alloc (Below.refl _ _) _) _).drew

end Bv
end Go.Proofs.Ytjhghfndhpaapaa

namespace Go.Proofs.Ytjhghfndhpaapaa
open Go.RowKit
namespace Bv
set_option maxHeartbeats 400000

theorem number_5 (w v n m : Nat) (_hw1 : 1 ≤ w) (hw2 : w ≤ 64) (hn : n < 2 ^ w) (_hv1 : 1 ≤ v) (hv2 : v ≤ 64) (hm : m < 2 ^ v) (W : World) :
    Calls Try.prog 65 #[.int .u8 5, .agg #[.int .u8 w, .int .u64 n], .agg #[.int .u8 v, .int .u64 m]] W fun e W' => e = .returned (.int .u64 (numB 5 w v n m : Int)) ∧ Below W.heap.size W W' := by
  have hn6 : n < 18446744073709551616 := Nat.lt_of_lt_of_le hn (pow_le64 hw2)
  have hm6 : m < 18446744073709551616 := Nat.lt_of_lt_of_le hm (pow_le64 hv2)
  go_enter Try.func65, Try.ntmps65
  go_wp2_with fail
  go_quiet (fail)
  repeat' (first | ((with_reducible refine wp_exit ?_); (repeat (first | (with_reducible refine ex_then ?_) | (with_reducible refine ex_near ?_) | (refine ex_far (by decide) ?_))); (with_reducible refine ex_go ?_)) | go_values | go_skip | go_guarded | go_step | go_upon)
  go_ret
  exact ⟨ret_u64 (bits_and_u64_nat n m hn6 hm6), bel_drewN (bel_alloc (bel_alloc (Below.refl _ _) _) _) _⟩

theorem number_6 (w v n m : Nat) (_hw1 : 1 ≤ w) (hw2 : w ≤ 64) (hn : n < 2 ^ w) (_hv1 : 1 ≤ v) (hv2 : v ≤ 64) (hm : m < 2 ^ v) (W : World) :
    Calls Try.prog 65 #[.int .u8 6, .agg #[.int .u8 w, .int .u64 n], .agg #[.int .u8 v, .int .u64 m]] W fun e W' => e = .returned (.int .u64 (numB 6 w v n m : Int)) ∧ Below W.heap.size W W' := by
  have hn6 : n < 18446744073709551616 := Nat.lt_of_lt_of_le hn (pow_le64 hw2)
  have hm6 : m < 18446744073709551616 := Nat.lt_of_lt_of_le hm (pow_le64 hv2)
  go_enter Try.func65, Try.ntmps65
  go_wp2_with fail
  go_quiet (fail)
  repeat' (first | ((with_reducible refine wp_exit ?_); (repeat (first | (with_reducible refine ex_then ?_) | (with_reducible refine ex_near ?_) | (refine ex_far (by decide) ?_))); (with_reducible refine ex_go ?_)) | go_values | go_skip | go_guarded | go_step | go_upon)
  go_ret
  exact ⟨ret_u64 (bits_or_u64_nat n m hn6 hm6), bel_drewN (bel_alloc (bel_alloc (Below.refl _ _) _) _) _⟩

theorem number_7 (w v n m : Nat) (_hw1 : 1 ≤ w) (hw2 : w ≤ 64) (hn : n < 2 ^ w) (_hv1 : 1 ≤ v) (hv2 : v ≤ 64) (hm : m < 2 ^ v) (W : World) :
    Calls Try.prog 65 #[.int .u8 7, .agg #[.int .u8 w, .int .u64 n], .agg #[.int .u8 v, .int .u64 m]] W fun e W' => e = .returned (.int .u64 (numB 7 w v n m : Int)) ∧ Below W.heap.size W W' := by
  have hn6 : n < 18446744073709551616 := Nat.lt_of_lt_of_le hn (pow_le64 hw2)
  have hm6 : m < 18446744073709551616 := Nat.lt_of_lt_of_le hm (pow_le64 hv2)
  go_enter Try.func65, Try.ntmps65
  go_wp2_with fail
  go_quiet (fail)
  repeat' (first | ((with_reducible refine wp_exit ?_); (repeat (first | (with_reducible refine ex_then ?_) | (with_reducible refine ex_near ?_) | (refine ex_far (by decide) ?_))); (with_reducible refine ex_go ?_)) | go_values | go_skip | go_guarded | go_step | go_upon)
  go_ret
  exact ⟨ret_u64 (bits_xor_u64_nat n m hn6 hm6), bel_drewN (bel_alloc (bel_alloc (Below.refl _ _) _) _) _⟩

theorem number_8 (w v n m : Nat) (_hw1 : 1 ≤ w) (_hw2 : w ≤ 64) (_hn : n < 2 ^ w) (_hv1 : 1 ≤ v) (_hv2 : v ≤ 64) (_hm : m < 2 ^ v) (W : World) :
    Calls Try.prog 65 #[.int .u8 8, .agg #[.int .u8 w, .int .u64 n], .agg #[.int .u8 v, .int .u64 m]] W fun e W' => e = .returned (.int .u64 (numB 8 w v n m : Int)) ∧ Below W.heap.size W W' := by
  go_enter Try.func65, Try.ntmps65
  go_wp2_with fail
  go_quiet (fail)
  repeat' (first | ((with_reducible refine wp_exit ?_); (repeat (first | (with_reducible refine ex_then ?_) | (with_reducible refine ex_near ?_) | (refine ex_far (by decide) ?_))); (with_reducible refine ex_go ?_)) | go_values | go_skip | go_guarded | go_step | go_upon)
  go_ret
  exact ⟨ret_u64 (num8 w v n m), bel_drewN (bel_alloc (bel_alloc (Below.refl _ _) _) _) _⟩

theorem number_9 (w v n m : Nat) (_hw1 : 1 ≤ w) (_hw2 : w ≤ 64) (_hn : n < 2 ^ w) (_hv1 : 1 ≤ v) (hv2 : v ≤ 64) (hm : m < 2 ^ v) (W : World) :
    Calls Try.prog 65 #[.int .u8 9, .agg #[.int .u8 w, .int .u64 n], .agg #[.int .u8 v, .int .u64 m]] W fun e W' => e = .returned (.int .u64 (numB 9 w v n m : Int)) ∧ Below W.heap.size W W' := by
  have hm6 : m < 18446744073709551616 := Nat.lt_of_lt_of_le hm (pow_le64 hv2)
  go_enter Try.func65, Try.ntmps65
  go_wp2_with fail
  go_quiet (fail)
  repeat' (first | ((with_reducible refine wp_exit ?_); (repeat (first | (with_reducible refine ex_then ?_) | (with_reducible refine ex_near ?_) | (refine ex_far (by decide) ?_))); (with_reducible refine ex_go ?_)) | go_values | go_skip | go_guarded | go_step | go_upon)
  go_ret
  exact ⟨ret_u64 (num9 w v n m hm6), bel_drewN (bel_alloc (bel_alloc (Below.refl _ _) _) _) _⟩

theorem number_10 (w v n m : Nat) (_hw1 : 1 ≤ w) (_hw2 : w ≤ 64) (_hn : n < 2 ^ w) (_hv1 : 1 ≤ v) (_hv2 : v ≤ 64) (_hm : m < 2 ^ v) (W : World) :
    Calls Try.prog 65 #[.int .u8 10, .agg #[.int .u8 w, .int .u64 n], .agg #[.int .u8 v, .int .u64 m]] W fun e W' => e = .returned (.int .u64 (numB 10 w v n m : Int)) ∧ Below W.heap.size W W' := by
  go_enter Try.func65, Try.ntmps65
  go_wp2_with fail
  go_quiet (fail)
  repeat' (first | ((with_reducible refine wp_exit ?_); (repeat (first | (with_reducible refine ex_then ?_) | (with_reducible refine ex_near ?_) | (refine ex_far (by decide) ?_))); (with_reducible refine ex_go ?_)) | go_values | go_skip | go_guarded | go_step | go_upon)
  go_ret
  exact ⟨ret_u64 (num10 w v n m), bel_drewN (bel_alloc (bel_alloc (Below.refl _ _) _) _) _⟩

theorem number_11 (w v n m : Nat) (_hw1 : 1 ≤ w) (hw2 : w ≤ 64) (hn : n < 2 ^ w) (_hv1 : 1 ≤ v) (_hv2 : v ≤ 64) (_hm : m < 2 ^ v) (W : World) :
    Calls Try.prog 65 #[.int .u8 11, .agg #[.int .u8 w, .int .u64 n], .agg #[.int .u8 v, .int .u64 m]] W fun e W' => e = .returned (.int .u64 (numB 11 w v n m : Int)) ∧ Below W.heap.size W W' := by
  have hn6 : n < 18446744073709551616 := Nat.lt_of_lt_of_le hn (pow_le64 hw2)
  go_enter Try.func65, Try.ntmps65
  go_wp2_with fail
  go_quiet (fail)
  repeat' (first | ((with_reducible refine wp_exit ?_); (repeat (first | (with_reducible refine ex_then ?_) | (with_reducible refine ex_near ?_) | (refine ex_far (by decide) ?_))); (with_reducible refine ex_go ?_)) | go_values | go_skip | go_guarded | go_step | go_upon)
  go_wp2_with (first | (go_at_call 80; refine (div_u w v n m hn6 _).mono ?_; rintro e w1 ⟨rfl, hb⟩))
  go_ret
  exact ⟨rfl, bel_call (bel_drewN (bel_alloc (bel_alloc (Below.refl _ _) _) _) _) hb⟩

theorem number_12 (w v n m : Nat) (_hw1 : 1 ≤ w) (_hw2 : w ≤ 64) (_hn : n < 2 ^ w) (_hv1 : 1 ≤ v) (_hv2 : v ≤ 64) (_hm : m < 2 ^ v) (W : World) :
    Calls Try.prog 65 #[.int .u8 12, .agg #[.int .u8 w, .int .u64 n], .agg #[.int .u8 v, .int .u64 m]] W fun e W' => e = .returned (.int .u64 (numB 12 w v n m : Int)) ∧ Below W.heap.size W W' := by
  go_enter Try.func65, Try.ntmps65
  go_wp2_with fail
  go_quiet (fail)
  repeat' (first | ((with_reducible refine wp_exit ?_); (repeat (first | (with_reducible refine ex_then ?_) | (with_reducible refine ex_near ?_) | (refine ex_far (by decide) ?_))); (with_reducible refine ex_go ?_)) | go_values | go_skip | go_guarded | go_step | go_upon)
  go_wp2_with (first | (go_at_call 80; refine (div_r w v n m _).mono ?_; rintro e w1 ⟨rfl, hb⟩))
  go_ret
  exact ⟨rfl, bel_call (bel_drewN (bel_alloc (bel_alloc (Below.refl _ _) _) _) _) hb⟩

theorem number_13 (w v n m : Nat) (hw1 : 1 ≤ w) (hw2 : w ≤ 64) (hn : n < 2 ^ w) (hv1 : 1 ≤ v) (hv2 : v ≤ 64) (hm : m < 2 ^ v) (W : World) :
    Calls Try.prog 65 #[.int .u8 13, .agg #[.int .u8 w, .int .u64 n], .agg #[.int .u8 v, .int .u64 m]] W fun e W' => e = .returned (.int .u64 (numB 13 w v n m : Int)) ∧ Below W.heap.size W W' := by
  go_enter Try.func65, Try.ntmps65
  go_wp2_with fail
  go_quiet (fail)
  repeat' (first | ((with_reducible refine wp_exit ?_); (repeat (first | (with_reducible refine ex_then ?_) | (with_reducible refine ex_near ?_) | (refine ex_far (by decide) ?_))); (with_reducible refine ex_go ?_)) | go_values | go_skip | go_guarded | go_step | go_upon)
  go_wp2_with (first | (go_at_call 80; refine (div_s w v n m hw1 hw2 hn hv1 hv2 hm _).mono ?_; rintro e w1 ⟨rfl, hb⟩))
  go_ret
  exact ⟨rfl, bel_call (bel_drewN (bel_alloc (bel_alloc (Below.refl _ _) _) _) _) hb⟩

theorem number_14 (w v n m : Nat) (hw1 : 1 ≤ w) (hw2 : w ≤ 64) (hn : n < 2 ^ w) (hv1 : 1 ≤ v) (hv2 : v ≤ 64) (hm : m < 2 ^ v) (W : World) :
    Calls Try.prog 65 #[.int .u8 14, .agg #[.int .u8 w, .int .u64 n], .agg #[.int .u8 v, .int .u64 m]] W fun e W' => e = .returned (.int .u64 (numB 14 w v n m : Int)) ∧ Below W.heap.size W W' := by
  go_enter Try.func65, Try.ntmps65
  go_wp2_with fail
  go_quiet (fail)
  repeat' (first | ((with_reducible refine wp_exit ?_); (repeat (first | (with_reducible refine ex_then ?_) | (with_reducible refine ex_near ?_) | (refine ex_far (by decide) ?_))); (with_reducible refine ex_go ?_)) | go_values | go_skip | go_guarded | go_step | go_upon)
  go_wp2_with (first | (go_at_call 80; refine (div_sr w v n m hw1 hw2 hn hv1 hv2 hm _).mono ?_; rintro e w1 ⟨rfl, hb⟩))
  go_ret
  exact ⟨rfl, bel_call (bel_drewN (bel_alloc (bel_alloc (Below.refl _ _) _) _) _) hb⟩

theorem number_15 (w v n m : Nat) (_hw1 : 1 ≤ w) (_hw2 : w ≤ 64) (_hn : n < 2 ^ w) (_hv1 : 1 ≤ v) (_hv2 : v ≤ 64) (_hm : m < 2 ^ v) (W : World) :
    Calls Try.prog 65 #[.int .u8 15, .agg #[.int .u8 w, .int .u64 n], .agg #[.int .u8 v, .int .u64 m]] W fun e W' => e = .returned (.int .u64 (numB 15 w v n m : Int)) ∧ Below W.heap.size W W' := by
  go_enter Try.func65, Try.ntmps65
  go_wp2_with fail
  go_quiet (fail)
  repeat' (first | ((with_reducible refine wp_exit ?_); (repeat (first | (with_reducible refine ex_then ?_) | (with_reducible refine ex_near ?_) | (refine ex_far (by decide) ?_))); (with_reducible refine ex_go ?_)) | go_values | go_skip | go_guarded | go_step | go_upon)
  go_ret
  exact ⟨ret_u64 (num15 w v n m), bel_drewN (bel_alloc (bel_alloc (Below.refl _ _) _) _) _⟩

theorem number_16 (w v n m : Nat) (_hw1 : 1 ≤ w) (_hw2 : w ≤ 64) (_hn : n < 2 ^ w) (_hv1 : 1 ≤ v) (_hv2 : v ≤ 64) (_hm : m < 2 ^ v) (W : World) :
    Calls Try.prog 65 #[.int .u8 16, .agg #[.int .u8 w, .int .u64 n], .agg #[.int .u8 v, .int .u64 m]] W fun e W' => e = .returned (.int .u64 (numB 16 w v n m : Int)) ∧ Below W.heap.size W W' := by
  go_enter Try.func65, Try.ntmps65
  go_wp2_with fail
  go_quiet (fail)
  repeat' (first | ((with_reducible refine wp_exit ?_); (repeat (first | (with_reducible refine ex_then ?_) | (with_reducible refine ex_near ?_) | (refine ex_far (by decide) ?_))); (with_reducible refine ex_go ?_)) | go_values | go_skip | go_guarded | go_step | go_upon)
  go_ret
  exact ⟨ret_u64 (num16 w v n m), bel_drewN (bel_alloc (bel_alloc (Below.refl _ _) _) _) _⟩

theorem number_17 (w v n m : Nat) (hw1 : 1 ≤ w) (hw2 : w ≤ 64) (hn : n < 2 ^ w) (_hv1 : 1 ≤ v) (_hv2 : v ≤ 64) (_hm : m < 2 ^ v) (W : World) :
    Calls Try.prog 65 #[.int .u8 17, .agg #[.int .u8 w, .int .u64 n], .agg #[.int .u8 v, .int .u64 m]] W fun e W' => e = .returned (.int .u64 (numB 17 w v n m : Int)) ∧ Below W.heap.size W W' := by
  go_enter Try.func65, Try.ntmps65
  go_wp2_with fail
  go_quiet (fail)
  repeat' (first | ((with_reducible refine wp_exit ?_); (repeat (first | (with_reducible refine ex_then ?_) | (with_reducible refine ex_near ?_) | (refine ex_far (by decide) ?_))); (with_reducible refine ex_go ?_)) | go_values | go_skip | go_guarded | go_step | go_upon)
  go_wp2_with (first | (go_at_call 63; refine (worth_any w n hw1 hw2 hn _).mono ?_; rintro e w1 ⟨rfl, hb⟩))
  go_ret
  exact ⟨ret_u64 (num17 w v n m), bel_call (bel_drewN (bel_alloc (bel_alloc (Below.refl _ _) _) _) _) hb⟩

theorem number_18 (w v n m : Nat) (_hw1 : 1 ≤ w) (_hw2 : w ≤ 64) (_hn : n < 2 ^ w) (_hv1 : 1 ≤ v) (_hv2 : v ≤ 64) (_hm : m < 2 ^ v) (W : World) :
    Calls Try.prog 65 #[.int .u8 18, .agg #[.int .u8 w, .int .u64 n], .agg #[.int .u8 v, .int .u64 m]] W fun e W' => e = .returned (.int .u64 (numB 18 w v n m : Int)) ∧ Below W.heap.size W W' := by
  go_enter Try.func65, Try.ntmps65
  go_wp2_with fail
  go_quiet (fail)
  repeat' (first | ((with_reducible refine wp_exit ?_); (repeat (first | (with_reducible refine ex_then ?_) | (with_reducible refine ex_near ?_) | (refine ex_far (by decide) ?_))); (with_reducible refine ex_go ?_)) | go_values | go_skip | go_guarded | go_step | go_upon)
  go_wp2_with (first | (go_at_call 81; refine (bit_any _ _).mono ?_; rintro e w1 ⟨rfl, rfl⟩))
  go_ret
  refine ⟨ret_u64 (congrArg (fun b : Bool => ((b.toNat : Nat) : Int)) (?_ : _ = (n == m))), bel_drewN (bel_alloc (bel_alloc (Below.refl _ _) _) _) _⟩
  exact Bool.eq_iff_iff.2 (by simp [Int.ofNat_inj])

theorem number_19 (w v n m : Nat) (_hw1 : 1 ≤ w) (_hw2 : w ≤ 64) (_hn : n < 2 ^ w) (_hv1 : 1 ≤ v) (_hv2 : v ≤ 64) (_hm : m < 2 ^ v) (W : World) :
    Calls Try.prog 65 #[.int .u8 19, .agg #[.int .u8 w, .int .u64 n], .agg #[.int .u8 v, .int .u64 m]] W fun e W' => e = .returned (.int .u64 (numB 19 w v n m : Int)) ∧ Below W.heap.size W W' := by
  go_enter Try.func65, Try.ntmps65
  go_wp2_with fail
  go_quiet (fail)
  repeat' (first | ((with_reducible refine wp_exit ?_); (repeat (first | (with_reducible refine ex_then ?_) | (with_reducible refine ex_near ?_) | (refine ex_far (by decide) ?_))); (with_reducible refine ex_go ?_)) | go_values | go_skip | go_guarded | go_step | go_upon)
  go_wp2_with (first | (go_at_call 81; refine (bit_any _ _).mono ?_; rintro e w1 ⟨rfl, rfl⟩))
  go_ret
  refine ⟨ret_u64 (congrArg (fun b : Bool => ((b.toNat : Nat) : Int)) (?_ : _ = decide (n < m))), bel_drewN (bel_alloc (bel_alloc (Below.refl _ _) _) _) _⟩
  exact by simp

theorem number_20 (w v n m : Nat) (hw1 : 1 ≤ w) (hw2 : w ≤ 64) (hn : n < 2 ^ w) (_hv1 : 1 ≤ v) (hv2 : v ≤ 64) (hm : m < 2 ^ v) (W : World) :
    Calls Try.prog 65 #[.int .u8 20, .agg #[.int .u8 w, .int .u64 n], .agg #[.int .u8 v, .int .u64 m]] W fun e W' => e = .returned (.int .u64 (numB 20 w v n m : Int)) ∧ Below W.heap.size W W' := by
  have hn6 : n < 18446744073709551616 := Nat.lt_of_lt_of_le hn (pow_le64 hw2)
  have hm6 : m < 18446744073709551616 := Nat.lt_of_lt_of_le hm (pow_le64 hv2)
  go_enter Try.func65, Try.ntmps65
  go_wp2_with fail
  go_quiet (fail)
  repeat' (first | ((with_reducible refine wp_exit ?_); (repeat (first | (with_reducible refine ex_then ?_) | (with_reducible refine ex_near ?_) | (refine ex_far (by decide) ?_))); (with_reducible refine ex_go ?_)) | go_values | go_skip | go_guarded | go_step | go_upon)
  go_wp2_with (first | (go_at_call 81; refine (bit_any _ _).mono ?_; rintro e w1 ⟨rfl, rfl⟩))
  go_ret
  refine ⟨ret_u64 (congrArg (fun b : Bool => ((b.toNat : Nat) : Int)) (?_ : _ = decide (n ^^^ 2 ^ (w - 1) < m ^^^ 2 ^ (w - 1)))), bel_drewN (bel_alloc (bel_alloc (Below.refl _ _) _) _) _⟩
  exact num20 w n m hw1 hw2 hn6 hm6

theorem number_21 (w v n m : Nat) (_hw1 : 1 ≤ w) (_hw2 : w ≤ 64) (_hn : n < 2 ^ w) (_hv1 : 1 ≤ v) (hv2 : v ≤ 64) (hm : m < 2 ^ v) (W : World) :
    Calls Try.prog 65 #[.int .u8 21, .agg #[.int .u8 w, .int .u64 n], .agg #[.int .u8 v, .int .u64 m]] W fun e W' => e = .returned (.int .u64 (numB 21 w v n m : Int)) ∧ Below W.heap.size W W' := by
  have hm6 : m < 18446744073709551616 := Nat.lt_of_lt_of_le hm (pow_le64 hv2)
  go_enter Try.func65, Try.ntmps65
  go_wp2_with fail
  go_quiet (fail)
  repeat' (first | ((with_reducible refine wp_exit ?_); (repeat (first | (with_reducible refine ex_then ?_) | (with_reducible refine ex_near ?_) | (refine ex_far (by decide) ?_))); (with_reducible refine ex_go ?_)) | go_values | go_skip | go_guarded | go_step | go_upon)
  go_ret
  exact ⟨ret_u64 (num21 w v n m hm6), bel_drewN (bel_alloc (bel_alloc (Below.refl _ _) _) _) _⟩

end Bv
end Go.Proofs.Ytjhghfndhpaapaa

namespace Go.Proofs.Ytjhghfndhpaapaa
open Go.RowKit
namespace Bv
set_option maxHeartbeats 400000

theorem width_any (o v w : Nat) (hv : v ≤ 64) (hw : w ≤ 64) (W : World) :
    Calls Try.prog 64 #[.int .u8 o, .int .u8 v, .int .u8 w] W fun e W' => e = .returned (.int .u8 ((widthB o v w : Nat) : Int)) ∧ W = W' := by
  by_cases h1 : 5 ≤ o ∧ o ≤ 17
  · have e : widthB o v w = (if v = w then v else 0) := by unfold widthB; rw [if_pos h1]
    rw [e]; exact width_same o v w h1.1 h1.2 W
  · by_cases h2 : 18 ≤ o ∧ o ≤ 20
    · have e : widthB o v w = (if v = w then 1 else 0) := by unfold widthB; rw [if_neg h1, if_pos h2]
      rw [e]; exact width_test o v w h2.1 h2.2 W
    · by_cases h3 : o = 21
      · subst h3
        exact width_concat v w hv hw W
      · have e : widthB o v w = 0 := by unfold widthB; rw [if_neg h1, if_neg h2, if_neg h3]
        rw [e]; exact width_none o v w (by omega) W

theorem number_any (o w v n m : Nat) (h1 : 5 ≤ o) (h2 : o ≤ 21) (hw1 : 1 ≤ w) (hw2 : w ≤ 64) (hn : n < 2 ^ w) (hv1 : 1 ≤ v) (hv2 : v ≤ 64) (hm : m < 2 ^ v) (W : World) :
    Calls Try.prog 65 #[.int .u8 o, .agg #[.int .u8 w, .int .u64 n], .agg #[.int .u8 v, .int .u64 m]] W fun e W' => e = .returned (.int .u64 (numB o w v n m : Int)) ∧ Below W.heap.size W W' := by
  obtain rfl | rfl | rfl | rfl | rfl | rfl | rfl | rfl | rfl | rfl | rfl | rfl | rfl | rfl | rfl | rfl | rfl : o = 5 ∨ o = 6 ∨ o = 7 ∨ o = 8 ∨ o = 9 ∨ o = 10 ∨ o = 11 ∨ o = 12 ∨ o = 13 ∨ o = 14 ∨ o = 15 ∨ o = 16 ∨ o = 17 ∨ o = 18 ∨ o = 19 ∨ o = 20 ∨ o = 21 := by omega
  · exact number_5 w v n m hw1 hw2 hn hv1 hv2 hm W
  · exact number_6 w v n m hw1 hw2 hn hv1 hv2 hm W
  · exact number_7 w v n m hw1 hw2 hn hv1 hv2 hm W
  · exact number_8 w v n m hw1 hw2 hn hv1 hv2 hm W
  · exact number_9 w v n m hw1 hw2 hn hv1 hv2 hm W
  · exact number_10 w v n m hw1 hw2 hn hv1 hv2 hm W
  · exact number_11 w v n m hw1 hw2 hn hv1 hv2 hm W
  · exact number_12 w v n m hw1 hw2 hn hv1 hv2 hm W
  · exact number_13 w v n m hw1 hw2 hn hv1 hv2 hm W
  · exact number_14 w v n m hw1 hw2 hn hv1 hv2 hm W
  · exact number_15 w v n m hw1 hw2 hn hv1 hv2 hm W
  · exact number_16 w v n m hw1 hw2 hn hv1 hv2 hm W
  · exact number_17 w v n m hw1 hw2 hn hv1 hv2 hm W
  · exact number_18 w v n m hw1 hw2 hn hv1 hv2 hm W
  · exact number_19 w v n m hw1 hw2 hn hv1 hv2 hm W
  · exact number_20 w v n m hw1 hw2 hn hv1 hv2 hm W
  · exact number_21 w v n m hw1 hw2 hn hv1 hv2 hm W

theorem binary_ok (o w v n m : Nat) (ha : mayB w n = true) (hb : mayB v m = true) (hr : ¬ widthB o w v = 0) (W : World) :
    Calls Try.prog 45 #[.int .u8 o, .agg #[.int .u8 w, .int .u64 n], .agg #[.int .u8 v, .int .u64 m]] W fun e W' => e = .returned (.tuple #[.agg #[.int .u8 (widthB o w v : Nat), .int .u64 (low (widthB o w v) (numB o w v n m) : Nat)], .int .i64 0]) ∧ Below W.heap.size W W' := by
  obtain ⟨hw1, hw2, hn⟩ := mayB_true ha
  obtain ⟨hv1, hv2, hm⟩ := mayB_true hb
  obtain ⟨ho1, ho2⟩ := widthB_op hr
  have hle := widthB_le (o := o) (w := v) hw2
  have hnum : numB o w v n m < 18446744073709551616 := numB_lt (Nat.lt_of_lt_of_le hn (pow_le64 hw2)) (Nat.lt_of_lt_of_le hm (pow_le64 hv2))
  have d0 : (((widthB o w v : Nat) : Int) == 0) = false := by simp; omega
  have HA := Lib.hid ha
  have HB := Lib.hid hb
  clear ha hb
  go_enter Try.func45, Try.ntmps45
  go_wp2_with fail
  refine (may_any w n _).mono ?_; rw [HA.out]; rintro e w1 ⟨rfl, hb1⟩; obtain ⟨hc1, hf1⟩ := bcell hb1
  obtain ⟨z1a, z1b, z1c⟩ : W.heap.size < w1.heap.size ∧ W.heap.size + 1 < w1.heap.size ∧ W.heap.size + 1 + 1 < w1.heap.size := by have := hb1.size; simp at this; omega
  go_wp2_with fail
  refine (may_any v m _).mono ?_; rw [HB.out]; rintro e w2 ⟨rfl, hb2⟩; obtain ⟨hc2, hf2⟩ := bcell hb2
  obtain ⟨z2a, z2b, z2c⟩ : W.heap.size < w2.heap.size ∧ W.heap.size + 1 < w2.heap.size ∧ W.heap.size + 1 + 1 < w2.heap.size := by have := hb2.size; omega
  go_wp2_with fail
  refine (width_any o w v hw2 hv2 _).mono ?_; rintro e w3 ⟨rfl, rfl⟩
  go_wp2_with fail
  refine (number_any o w v n m ho1 ho2 hw1 hw2 hn hv1 hv2 hm _).mono ?_; rintro e w4 ⟨rfl, hb4⟩; obtain ⟨hc4, hf4⟩ := bcell hb4
  obtain ⟨z4a, z4b, z4c⟩ : W.heap.size < w4.heap.size ∧ W.heap.size + 1 < w4.heap.size ∧ W.heap.size + 1 + 1 < w4.heap.size := by have := hb4.size; omega
  go_wp2_with fail
  refine (cut_any (widthB o w v) (by omega) hle _ (by omega) (by omega) _).mono ?_; rintro e w5 ⟨rfl, hb5⟩; obtain ⟨hc5, hf5⟩ := bcell hb5
  obtain ⟨z5a, z5b, z5c⟩ : W.heap.size < w5.heap.size ∧ W.heap.size + 1 < w5.heap.size ∧ W.heap.size + 1 + 1 < w5.heap.size := by have := hb5.size; omega
  go_wp2_with fail
  refine bodyPost_ret (v := .tuple #[.agg #[.int .u8 (widthB o w v : Nat), .int .u64 (low (widthB o w v) (numB o w v n m) : Nat)], .int .i64 0]) (by simp [results, Try.results45, go_sem, hc5, hc4, hc2, hc1, z4c, z2c, z1c]) rfl ⟨rfl, ?_⟩
  have hb := bel_call (bel_call (bel_call (bel_call (bel_alloc (bel_alloc (bel_alloc (Below.refl _ _) _) _) _) hb1) hb2) hb4) hb5
  exact (hb.setCell (by simp; omega) _).setCell (by simp; omega) _

theorem binary_bad (o w v n m : Nat) (h : mayB w n = false ∨ mayB v m = false ∨ widthB o w v = 0) (W : World) :
    Calls Try.prog 45 #[.int .u8 o, .agg #[.int .u8 w, .int .u64 n], .agg #[.int .u8 v, .int .u64 m]] W fun e W' => e = .returned (.tuple #[.agg #[.int .u8 0, .int .u64 0], .int .i64 2]) ∧ Below W.heap.size W W' := by
  cases ha : mayB w n
  · have HA := Lib.hid ha
    clear ha h
    go_enter Try.func45, Try.ntmps45
    go_wp2_with fail
    refine (may_any w n _).mono ?_; rw [HA.out]; rintro e w1 ⟨rfl, hb1⟩; obtain ⟨hc1, hf1⟩ := bcell hb1
    obtain ⟨z1a, z1b, z1c⟩ : W.heap.size < w1.heap.size ∧ W.heap.size + 1 < w1.heap.size ∧ W.heap.size + 1 + 1 < w1.heap.size := by have := hb1.size; simp at this; omega
    go_wp2_with fail
    refine bodyPost_ret (v := .tuple #[.agg #[.int .u8 0, .int .u64 0], .int .i64 2]) (by simp [results, Try.results45, go_sem, hc1]) rfl ⟨rfl, ?_⟩
    have hb := bel_call (bel_alloc (bel_alloc (bel_alloc (Below.refl _ _) _) _) _) hb1
    exact (hb.setCell (by simp; omega) _).setCell (by simp; omega) _
  · cases hb : mayB v m
    · have HA := Lib.hid ha
      have HB := Lib.hid hb
      clear ha hb h
      go_enter Try.func45, Try.ntmps45
      go_wp2_with fail
      refine (may_any w n _).mono ?_; rw [HA.out]; rintro e w1 ⟨rfl, hb1⟩; obtain ⟨hc1, hf1⟩ := bcell hb1
      obtain ⟨z1a, z1b, z1c⟩ : W.heap.size < w1.heap.size ∧ W.heap.size + 1 < w1.heap.size ∧ W.heap.size + 1 + 1 < w1.heap.size := by have := hb1.size; simp at this; omega
      go_wp2_with fail
      refine (may_any v m _).mono ?_; rw [HB.out]; rintro e w2 ⟨rfl, hb2⟩; obtain ⟨hc2, hf2⟩ := bcell hb2
      obtain ⟨z2a, z2b, z2c⟩ : W.heap.size < w2.heap.size ∧ W.heap.size + 1 < w2.heap.size ∧ W.heap.size + 1 + 1 < w2.heap.size := by have := hb2.size; omega
      go_wp2_with fail
      refine bodyPost_ret (v := .tuple #[.agg #[.int .u8 0, .int .u64 0], .int .i64 2]) (by simp [results, Try.results45, go_sem, hc2, hc1, z1c]) rfl ⟨rfl, ?_⟩
      have hb := bel_call (bel_call (bel_alloc (bel_alloc (bel_alloc (Below.refl _ _) _) _) _) hb1) hb2
      exact (hb.setCell (by simp; omega) _).setCell (by simp; omega) _
    · have hr : widthB o w v = 0 := by
        rcases h with h | h | h
        · rw [ha] at h; cases h
        · rw [hb] at h; cases h
        · exact h
      obtain ⟨hw1, hw2, hn⟩ := mayB_true ha
      obtain ⟨hv1, hv2, hm⟩ := mayB_true hb
      have HA := Lib.hid ha
      have HB := Lib.hid hb
      have HR := Lib.hid hr
      clear ha hb h hr
      go_enter Try.func45, Try.ntmps45
      go_wp2_with fail
      refine (may_any w n _).mono ?_; rw [HA.out]; rintro e w1 ⟨rfl, hb1⟩; obtain ⟨hc1, hf1⟩ := bcell hb1
      obtain ⟨z1a, z1b, z1c⟩ : W.heap.size < w1.heap.size ∧ W.heap.size + 1 < w1.heap.size ∧ W.heap.size + 1 + 1 < w1.heap.size := by have := hb1.size; simp at this; omega
      go_wp2_with fail
      refine (may_any v m _).mono ?_; rw [HB.out]; rintro e w2 ⟨rfl, hb2⟩; obtain ⟨hc2, hf2⟩ := bcell hb2
      obtain ⟨z2a, z2b, z2c⟩ : W.heap.size < w2.heap.size ∧ W.heap.size + 1 < w2.heap.size ∧ W.heap.size + 1 + 1 < w2.heap.size := by have := hb2.size; omega
      go_wp2_with fail
      refine (width_any o w v hw2 hv2 _).mono ?_; rw [HR.out]; rintro e w3 ⟨rfl, rfl⟩
      go_wp2_with fail
      refine bodyPost_ret (v := .tuple #[.agg #[.int .u8 0, .int .u64 0], .int .i64 2]) (by simp [results, Try.results45, go_sem, hc2, hc1, z1c]) rfl ⟨rfl, ?_⟩
      have hb := bel_call (bel_call (bel_alloc (bel_alloc (bel_alloc (Below.refl _ _) _) _) _) hb1) hb2
      exact (hb.setCell (by simp; omega) _).setCell (by simp; omega) _

end Bv
end Go.Proofs.Ytjhghfndhpaapaa

namespace Go.Proofs.Ytjhghfndhpaapaa
open Go.RowKit
namespace Bv
set_option maxHeartbeats 400000

theorem unary_ok (o w n : Nat) (ho : o = 3 ∨ o = 4) (ha : mayB w n = true) (W : World) :
    Calls Try.prog 42 #[.int .u8 o, .agg #[.int .u8 w, .int .u64 n]] W fun e W' => e = .returned (.tuple #[.agg #[.int .u8 w, .int .u64 (low w (numU o n) : Nat)], .int .i64 0]) ∧ Below W.heap.size W W' := by
  obtain ⟨hw1, hw2, hn⟩ := mayB_true ha
  have hn6 : n < 18446744073709551616 := Nat.lt_of_lt_of_le hn (pow_le64 hw2)
  have hu := numU_lt 4 n
  have HA := Lib.hid ha
  clear ha
  rcases ho with rfl | rfl
  · go_enter Try.func42, Try.ntmps42
    go_wp2_with fail
    refine (may_any w n _).mono ?_; rw [HA.out]; rintro e w1 ⟨rfl, hb1⟩; obtain ⟨hc1, hf1⟩ := bcell hb1
    obtain ⟨z1a, z1b⟩ : W.heap.size < w1.heap.size ∧ W.heap.size + 1 < w1.heap.size := by have := hb1.size; simp at this; omega
    go_wp2_with fail
    rw [notmax hn6]
    refine (cut_any w hw1 hw2 _ (by omega) (by omega) _).mono ?_; rintro e w2 ⟨rfl, hb2⟩; obtain ⟨hc2, hf2⟩ := bcell hb2
    obtain ⟨z2a, z2b⟩ : W.heap.size < w2.heap.size ∧ W.heap.size + 1 < w2.heap.size := by have := hb2.size; omega
    go_wp2_with fail
    refine bodyPost_ret (v := .tuple #[.agg #[.int .u8 w, .int .u64 (low w (numU 3 n) : Nat)], .int .i64 0]) (by simp [results, Try.results42, go_sem, hc2, hc1, z1b]; rfl) rfl ⟨rfl, ?_⟩
    have hb := bel_call (bel_call (bel_alloc (bel_alloc (Below.refl _ _) _) _) hb1) hb2
    exact (hb.setCell (by simp) _).setCell (by simp) _
  · go_enter Try.func42, Try.ntmps42
    go_wp2_with fail
    refine (may_any w n _).mono ?_; rw [HA.out]; rintro e w1 ⟨rfl, hb1⟩; obtain ⟨hc1, hf1⟩ := bcell hb1
    obtain ⟨z1a, z1b⟩ : W.heap.size < w1.heap.size ∧ W.heap.size + 1 < w1.heap.size := by have := hb1.size; simp at this; omega
    go_wp2_with fail
    rw [neg64 hn6]
    refine (cut_any w hw1 hw2 _ (by omega) (by omega) _).mono ?_; rintro e w2 ⟨rfl, hb2⟩; obtain ⟨hc2, hf2⟩ := bcell hb2
    obtain ⟨z2a, z2b⟩ : W.heap.size < w2.heap.size ∧ W.heap.size + 1 < w2.heap.size := by have := hb2.size; omega
    go_wp2_with fail
    refine bodyPost_ret (v := .tuple #[.agg #[.int .u8 w, .int .u64 (low w (numU 4 n) : Nat)], .int .i64 0]) (by simp [results, Try.results42, go_sem, hc2, hc1, z1b]) rfl ⟨rfl, ?_⟩
    have hb := bel_call (bel_call (bel_alloc (bel_alloc (Below.refl _ _) _) _) hb1) hb2
    exact (hb.setCell (by simp) _).setCell (by simp) _

theorem unary_bad (o w n : Nat) (h : mayB w n = false ∨ (o ≠ 3 ∧ o ≠ 4)) (W : World) :
    Calls Try.prog 42 #[.int .u8 o, .agg #[.int .u8 w, .int .u64 n]] W fun e W' => e = .returned (.tuple #[.agg #[.int .u8 0, .int .u64 0], .int .i64 2]) ∧ Below W.heap.size W W' := by
  cases ha : mayB w n
  · have HA := Lib.hid ha
    clear ha h
    go_enter Try.func42, Try.ntmps42
    go_wp2_with fail
    refine (may_any w n _).mono ?_; rw [HA.out]; rintro e w1 ⟨rfl, hb1⟩; obtain ⟨hc1, hf1⟩ := bcell hb1
    obtain ⟨z1a, z1b⟩ : W.heap.size < w1.heap.size ∧ W.heap.size + 1 < w1.heap.size := by have := hb1.size; simp at this; omega
    go_wp2_with fail
    refine bodyPost_ret (v := .tuple #[.agg #[.int .u8 0, .int .u64 0], .int .i64 2]) (by simp [results, Try.results42, go_sem, hc1]) rfl ⟨rfl, ?_⟩
    have hb := bel_call (bel_alloc (bel_alloc (Below.refl _ _) _) _) hb1
    exact (hb.setCell (by simp) _).setCell (by simp) _
  · have ho : o ≠ 3 ∧ o ≠ 4 := by
      rcases h with h | h
      · rw [ha] at h; cases h
      · exact h
    have d3 : ((o : Int) == 3) = false := by simp; omega
    have d4 : ((o : Int) == 4) = false := by simp; omega
    have HA := Lib.hid ha
    clear ha h ho
    go_enter Try.func42, Try.ntmps42
    go_wp2_with fail
    refine (may_any w n _).mono ?_; rw [HA.out]; rintro e w1 ⟨rfl, hb1⟩; obtain ⟨hc1, hf1⟩ := bcell hb1
    obtain ⟨z1a, z1b⟩ : W.heap.size < w1.heap.size ∧ W.heap.size + 1 < w1.heap.size := by have := hb1.size; simp at this; omega
    go_wp2_with fail
    refine bodyPost_ret (v := .tuple #[.agg #[.int .u8 0, .int .u64 0], .int .i64 2]) (by simp [results, Try.results42, go_sem, hc1]) rfl ⟨rfl, ?_⟩
    have hb := bel_call (bel_alloc (bel_alloc (Below.refl _ _) _) _) hb1
    exact (hb.setCell (by simp) _).setCell (by simp) _

theorem extract_ok (w n l r : Nat) (ha : mayB w n = true) (hr : 1 ≤ r) (hl : l + r ≤ w) (W : World) :
    Calls Try.prog 40 #[.agg #[.int .u8 w, .int .u64 n], .int .i64 l, .int .i64 r] W fun e W' => e = .returned (.tuple #[.agg #[.int .u8 r, .int .u64 (low r (n / 2 ^ l) : Nat)], .int .i64 0]) ∧ Below W.heap.size W W' := by
  obtain ⟨hw1, hw2, hn⟩ := mayB_true ha
  have hn6 : n < 18446744073709551616 := Nat.lt_of_lt_of_le hn (pow_le64 hw2)
  have hd : n / 2 ^ l < 18446744073709551616 := Nat.lt_of_le_of_lt (Nat.div_le_self _ _) hn6
  have e : (n : Int) / 2 ^ l = ((n / 2 ^ l : Nat) : Int) := by simp
  generalize n / 2 ^ l = q at *
  have HQ := Lib.hid e
  clear e
  have HA := Lib.hid ha
  clear ha
  go_enter Try.func40, Try.ntmps40
  go_wp2_with fail
  refine (may_any w n _).mono ?_; rw [HA.out]; rintro e w1 ⟨rfl, hb1⟩; obtain ⟨hc1, hf1⟩ := bcell hb1
  obtain ⟨z1a, z1b⟩ : W.heap.size < w1.heap.size ∧ W.heap.size + 1 < w1.heap.size := by have := hb1.size; simp at this; omega
  go_wp2_with fail
  rw [HQ.out]
  refine (cut_any r hr (by omega) _ (by omega) (by omega) _).mono ?_; rintro e w2 ⟨rfl, hb2⟩; obtain ⟨hc2, hf2⟩ := bcell hb2
  obtain ⟨z2a, z2b⟩ : W.heap.size < w2.heap.size ∧ W.heap.size + 1 < w2.heap.size := by have := hb2.size; omega
  go_wp2_with fail
  refine bodyPost_ret (v := .tuple #[.agg #[.int .u8 r, .int .u64 (low r q : Nat)], .int .i64 0]) (by simp [results, Try.results40, go_sem, hc2, hc1, z1b]) rfl ⟨rfl, ?_⟩
  have hb := bel_call (bel_call (bel_alloc (bel_alloc (Below.refl _ _) _) _) hb1) hb2
  exact (hb.setCell (by simp) _).setCell (by simp) _

theorem extend_ok (o w n r : Nat) (ho : o = 23 ∨ o = 24) (ha : mayB w n = true) (hr : w ≤ r) (hl : r ≤ 64) (W : World) :
    Calls Try.prog 43 #[.int .u8 o, .agg #[.int .u8 w, .int .u64 n], .int .i64 r] W fun e W' => e = .returned (.tuple #[.agg #[.int .u8 r, .int .u64 (low r (numE o w n) : Nat)], .int .i64 0]) ∧ Below W.heap.size W W' := by
  obtain ⟨hw1, hw2, hn⟩ := mayB_true ha
  have hn6 : n < 18446744073709551616 := Nat.lt_of_lt_of_le hn (pow_le64 hw2)
  have hq := numE_lt 24 w hn6
  have HA := Lib.hid ha
  clear ha
  rcases ho with rfl | rfl
  · go_enter Try.func43, Try.ntmps43
    go_wp2_with fail
    refine (may_any w n _).mono ?_; rw [HA.out]; rintro e w1 ⟨rfl, hb1⟩; obtain ⟨hc1, hf1⟩ := bcell hb1
    obtain ⟨z1a, z1b⟩ : W.heap.size < w1.heap.size ∧ W.heap.size + 1 < w1.heap.size := by have := hb1.size; simp at this; omega
    go_wp2_with fail
    refine (cut_any r (by omega) hl _ (by omega) (by omega) _).mono ?_; rintro e w2 ⟨rfl, hb2⟩; obtain ⟨hc2, hf2⟩ := bcell hb2
    obtain ⟨z2a, z2b⟩ : W.heap.size < w2.heap.size ∧ W.heap.size + 1 < w2.heap.size := by have := hb2.size; omega
    go_wp2_with fail
    refine bodyPost_ret (v := .tuple #[.agg #[.int .u8 r, .int .u64 (low r n : Nat)], .int .i64 0]) (by simp [results, Try.results43, go_sem, hc2, hc1, z1b]) rfl ⟨rfl, ?_⟩
    have hb := bel_call (bel_call (bel_alloc (bel_alloc (Below.refl _ _) _) _) hb1) hb2
    exact (hb.setCell (by simp) _).setCell (by simp) _
  · go_enter Try.func43, Try.ntmps43
    go_wp2_with fail
    refine (may_any w n _).mono ?_; rw [HA.out]; rintro e w1 ⟨rfl, hb1⟩; obtain ⟨hc1, hf1⟩ := bcell hb1
    obtain ⟨z1a, z1b⟩ : W.heap.size < w1.heap.size ∧ W.heap.size + 1 < w1.heap.size := by have := hb1.size; simp at this; omega
    go_wp2_with fail
    refine (worth_any w n hw1 hw2 hn _).mono ?_; rintro e w2 ⟨rfl, hb2⟩; obtain ⟨hc2, hf2⟩ := bcell hb2
    obtain ⟨z2a, z2b⟩ : W.heap.size < w2.heap.size ∧ W.heap.size + 1 < w2.heap.size := by have := hb2.size; omega
    go_wp2_with fail
    rw [sext64]
    refine (cut_any r (by omega) hl _ (by omega) (by omega) _).mono ?_; rintro e w3 ⟨rfl, hb3⟩; obtain ⟨hc3, hf3⟩ := bcell hb3
    obtain ⟨z3a, z3b⟩ : W.heap.size < w3.heap.size ∧ W.heap.size + 1 < w3.heap.size := by have := hb3.size; omega
    go_wp2_with fail
    refine bodyPost_ret (v := .tuple #[.agg #[.int .u8 r, .int .u64 (low r (numE 24 w n) : Nat)], .int .i64 0]) (by simp [results, Try.results43, go_sem, hc3, hc2, hc1, z2b, z1b]) rfl ⟨rfl, ?_⟩
    have hb := bel_call (bel_call (bel_call (bel_alloc (bel_alloc (Below.refl _ _) _) _) hb1) hb2) hb3
    exact (hb.setCell (by simp) _).setCell (by simp) _
end Bv
end Go.Proofs.Ytjhghfndhpaapaa

namespace Go.Proofs.Ytjhghfndhpaapaa
open Go.RowKit
namespace Bv
/-- Block p holds the cells x and y. -/
def At (w : World) (p : Nat) (x y : Value) : Prop := w.cell? ⟨p, 0, none⟩ = some x ∧ w.cell? ⟨p, 1, none⟩ = some y
theorem At.lt {w : World} {p : Nat} {x y : Value} (h : At w p x y) : p < w.heap.size := World.block_lt_of_cell? w _ h.1
theorem At.keep {w w' : World} {p : Nat} {x y : Value} (h : At w p x y) (hb : Below w.heap.size w w') : At w' p x y :=
  ⟨(hb.cell (p := ⟨p, 0, none⟩) h.lt).trans h.1, (hb.cell (p := ⟨p, 1, none⟩) h.lt).trans h.2⟩
theorem At.alloc {w : World} {p : Nat} {x y : Value} (h : At w p x y) (o : Obj) : At (w.alloc o) p x y :=
  ⟨(World.cell?_alloc_lt w o _ h.lt).trans h.1, (World.cell?_alloc_lt w o _ h.lt).trans h.2⟩
theorem At.new (w : World) (x y : Value) (t : TypeId) : At (w.alloc (.cells #[x, y] t)) w.heap.size x y := by
  constructor <;> simp [go_sem]
theorem At.drew {w : World} {p : Nat} {x y : Value} (h : At w p x y) : At w.drew p x y := h
theorem At.drewN {w : World} {p : Nat} {x y : Value} (h : At w p x y) (n : Nat) : At (w.drewN n) p x y := h
/-- Over a new block and a call. -/
theorem At.go {w w' : World} {p : Nat} {x y : Value} {o : Obj} (h : At w p x y) (hb : Below (w.alloc o).heap.size (w.alloc o) w') : At w' p x y := (h.alloc o).keep hb
theorem At.made {w w' : World} {x y : Value} {t : TypeId} (hb : Below (w.alloc (.cells #[x, y] t)).heap.size (w.alloc (.cells #[x, y] t)) w') : At w' w.heap.size x y := (At.new w x y t).keep hb
theorem bel_go {W w w' : World} {o : Obj} (h : Below W.heap.size W w) (k : Below (w.alloc o).heap.size (w.alloc o) w') : Below W.heap.size W w' := bel_call (bel_alloc h o) k
end Bv
end Go.Proofs.Ytjhghfndhpaapaa

namespace Go.Proofs.Ytjhghfndhpaapaa
open Go.RowKit
namespace Bv
set_option maxHeartbeats 1000000
set_option maxRecDepth 100000

theorem may_yes {w n : Nat} (h : mayB w n = true) (W : World) :
    Calls Try.prog 49 #[.agg #[.int .u8 w, .int .u64 n]] W fun e W' => e = .returned (.bool true) ∧ Below W.heap.size W W' := by
  have := may_any w n W; rw [h] at this; exact this
theorem may_no {w n : Nat} (h : mayB w n = false) (W : World) :
    Calls Try.prog 49 #[.agg #[.int .u8 w, .int .u64 n]] W fun e W' => e = .returned (.bool false) ∧ Below W.heap.size W W' := by
  have := may_any w n W; rw [h] at this; exact this

end Bv
end Go.Proofs.Ytjhghfndhpaapaa

namespace Go.Proofs.Ytjhghfndhpaapaa
open Go.RowKit
namespace Bv
set_option maxHeartbeats 400000
set_option maxRecDepth 100000

theorem extract_b1 (w n : Nat) (l r : Int) (HA : Hid (mayB w n = false)) (W : World) :
    Calls Try.prog 40 #[.agg #[.int .u8 w, .int .u64 n], .int .i64 l, .int .i64 r] W fun e W' => e = .returned (.tuple #[.agg #[.int .u8 0, .int .u64 0], .int .i64 2]) ∧ Below W.heap.size W W' := by
  go_enter Try.func40, Try.ntmps40
  go_wp2_with fail
  refine (may_no HA.out _).mono ?_; rintro e w1 ⟨rfl, hb1⟩
  have ka : At w1 (W.heap.size) (.int .u8 w) (.int .u64 n) := by have h0 := (((At.new _ _ _ _).alloc _)).keep hb1; simpa using h0
  have la := ka.lt
  have oa := ka
  unfold At at oa
  have kres : At w1 (W.heap.size + 1) (.int .u8 0) (.int .u64 0) := by have h0 := ((At.new _ _ _ _)).keep hb1; simpa using h0
  have lres := kres.lt
  have ores := kres
  unfold At at ores
  have fres : w1.frozen? ⟨W.heap.size + 1, 0, none⟩ = false ∧ w1.frozen? ⟨W.heap.size + 1, 1, none⟩ = false := by constructor <;> (rw [Below.frozen hb1 (by simp)]; simp [go_sem])
  go_wp2_with fail
  refine bodyPost_ret (v := .tuple #[.agg #[.int .u8 0, .int .u64 0], .int .i64 2]) (by simp [results, Try.results40, go_sem, ores]) rfl ⟨rfl, ?_⟩
  exact ((bel_call (bel_alloc (bel_alloc (Below.refl _ _) _) _) hb1).setCell (by first | (simp; done) | (simp; omega) | omega) _).setCell (by first | (simp; done) | (simp; omega) | omega) _

theorem extract_b2 (w n : Nat) (l r : Int) (HA : Hid (mayB w n = true)) (h : l < 0) (W : World) :
    Calls Try.prog 40 #[.agg #[.int .u8 w, .int .u64 n], .int .i64 l, .int .i64 r] W fun e W' => e = .returned (.tuple #[.agg #[.int .u8 0, .int .u64 0], .int .i64 2]) ∧ Below W.heap.size W W' := by
  go_enter Try.func40, Try.ntmps40
  go_wp2_with fail
  refine (may_yes HA.out _).mono ?_; rintro e w1 ⟨rfl, hb1⟩
  have ka : At w1 (W.heap.size) (.int .u8 w) (.int .u64 n) := by have h0 := (((At.new _ _ _ _).alloc _)).keep hb1; simpa using h0
  have la := ka.lt
  have oa := ka
  unfold At at oa
  have kres : At w1 (W.heap.size + 1) (.int .u8 0) (.int .u64 0) := by have h0 := ((At.new _ _ _ _)).keep hb1; simpa using h0
  have lres := kres.lt
  have ores := kres
  unfold At at ores
  have fres : w1.frozen? ⟨W.heap.size + 1, 0, none⟩ = false ∧ w1.frozen? ⟨W.heap.size + 1, 1, none⟩ = false := by constructor <;> (rw [Below.frozen hb1 (by simp)]; simp [go_sem])
  go_wp2_with fail
  refine bodyPost_ret (v := .tuple #[.agg #[.int .u8 0, .int .u64 0], .int .i64 2]) (by simp [results, Try.results40, go_sem, ores]) rfl ⟨rfl, ?_⟩
  exact ((bel_call (bel_alloc (bel_alloc (Below.refl _ _) _) _) hb1).setCell (by first | (simp; done) | (simp; omega) | omega) _).setCell (by first | (simp; done) | (simp; omega) | omega) _

theorem extract_b3 (w n : Nat) (l r : Int) (HA : Hid (mayB w n = true)) (h0 : 0 ≤ l) (h : r < 1) (W : World) :
    Calls Try.prog 40 #[.agg #[.int .u8 w, .int .u64 n], .int .i64 l, .int .i64 r] W fun e W' => e = .returned (.tuple #[.agg #[.int .u8 0, .int .u64 0], .int .i64 2]) ∧ Below W.heap.size W W' := by
  go_enter Try.func40, Try.ntmps40
  go_wp2_with fail
  refine (may_yes HA.out _).mono ?_; rintro e w1 ⟨rfl, hb1⟩
  have ka : At w1 (W.heap.size) (.int .u8 w) (.int .u64 n) := by have h0 := (((At.new _ _ _ _).alloc _)).keep hb1; simpa using h0
  have la := ka.lt
  have oa := ka
  unfold At at oa
  have kres : At w1 (W.heap.size + 1) (.int .u8 0) (.int .u64 0) := by have h0 := ((At.new _ _ _ _)).keep hb1; simpa using h0
  have lres := kres.lt
  have ores := kres
  unfold At at ores
  have fres : w1.frozen? ⟨W.heap.size + 1, 0, none⟩ = false ∧ w1.frozen? ⟨W.heap.size + 1, 1, none⟩ = false := by constructor <;> (rw [Below.frozen hb1 (by simp)]; simp [go_sem])
  go_wp2_with fail
  refine bodyPost_ret (v := .tuple #[.agg #[.int .u8 0, .int .u64 0], .int .i64 2]) (by simp [results, Try.results40, go_sem, ores]) rfl ⟨rfl, ?_⟩
  exact ((bel_call (bel_alloc (bel_alloc (Below.refl _ _) _) _) hb1).setCell (by first | (simp; done) | (simp; omega) | omega) _).setCell (by first | (simp; done) | (simp; omega) | omega) _

theorem extract_b4 (w n : Nat) (l r : Int) (HA : Hid (mayB w n = true)) (hw : w ≤ 64) (h0 : 0 ≤ l) (h1 : 1 ≤ r) (hr1 : r < 9223372036854775808) (h : (w : Int) - r < l) (W : World) :
    Calls Try.prog 40 #[.agg #[.int .u8 w, .int .u64 n], .int .i64 l, .int .i64 r] W fun e W' => e = .returned (.tuple #[.agg #[.int .u8 0, .int .u64 0], .int .i64 2]) ∧ Below W.heap.size W W' := by
  go_enter Try.func40, Try.ntmps40
  go_wp2_with fail
  refine (may_yes HA.out _).mono ?_; rintro e w1 ⟨rfl, hb1⟩
  have ka : At w1 (W.heap.size) (.int .u8 w) (.int .u64 n) := by have h0 := (((At.new _ _ _ _).alloc _)).keep hb1; simpa using h0
  have la := ka.lt
  have oa := ka
  unfold At at oa
  have kres : At w1 (W.heap.size + 1) (.int .u8 0) (.int .u64 0) := by have h0 := ((At.new _ _ _ _)).keep hb1; simpa using h0
  have lres := kres.lt
  have ores := kres
  unfold At at ores
  have fres : w1.frozen? ⟨W.heap.size + 1, 0, none⟩ = false ∧ w1.frozen? ⟨W.heap.size + 1, 1, none⟩ = false := by constructor <;> (rw [Below.frozen hb1 (by simp)]; simp [go_sem])
  go_wp2_with fail
  refine bodyPost_ret (v := .tuple #[.agg #[.int .u8 0, .int .u64 0], .int .i64 2]) (by simp [results, Try.results40, go_sem, ores]) rfl ⟨rfl, ?_⟩
  exact ((bel_call (bel_alloc (bel_alloc (Below.refl _ _) _) _) hb1).setCell (by first | (simp; done) | (simp; omega) | omega) _).setCell (by first | (simp; done) | (simp; omega) | omega) _

theorem extend_b1 (o w n : Nat) (r : Int) (HA : Hid (mayB w n = false)) (W : World) :
    Calls Try.prog 43 #[.int .u8 o, .agg #[.int .u8 w, .int .u64 n], .int .i64 r] W fun e W' => e = .returned (.tuple #[.agg #[.int .u8 0, .int .u64 0], .int .i64 2]) ∧ Below W.heap.size W W' := by
  go_enter Try.func43, Try.ntmps43
  go_wp2_with fail
  refine (may_no HA.out _).mono ?_; rintro e w1 ⟨rfl, hb1⟩
  have ka : At w1 (W.heap.size) (.int .u8 w) (.int .u64 n) := by have h0 := (((At.new _ _ _ _).alloc _)).keep hb1; simpa using h0
  have la := ka.lt
  have oa := ka
  unfold At at oa
  have kres : At w1 (W.heap.size + 1) (.int .u8 0) (.int .u64 0) := by have h0 := ((At.new _ _ _ _)).keep hb1; simpa using h0
  have lres := kres.lt
  have ores := kres
  unfold At at ores
  have fres : w1.frozen? ⟨W.heap.size + 1, 0, none⟩ = false ∧ w1.frozen? ⟨W.heap.size + 1, 1, none⟩ = false := by constructor <;> (rw [Below.frozen hb1 (by simp)]; simp [go_sem])
  go_wp2_with fail
  refine bodyPost_ret (v := .tuple #[.agg #[.int .u8 0, .int .u64 0], .int .i64 2]) (by simp [results, Try.results43, go_sem, ores]) rfl ⟨rfl, ?_⟩
  exact ((bel_call (bel_alloc (bel_alloc (Below.refl _ _) _) _) hb1).setCell (by first | (simp; done) | (simp; omega) | omega) _).setCell (by first | (simp; done) | (simp; omega) | omega) _

theorem extend_b2 (o w n : Nat) (r : Int) (HA : Hid (mayB w n = true)) (hw : w ≤ 64) (h : r < (w : Int)) (W : World) :
    Calls Try.prog 43 #[.int .u8 o, .agg #[.int .u8 w, .int .u64 n], .int .i64 r] W fun e W' => e = .returned (.tuple #[.agg #[.int .u8 0, .int .u64 0], .int .i64 2]) ∧ Below W.heap.size W W' := by
  go_enter Try.func43, Try.ntmps43
  go_wp2_with fail
  refine (may_yes HA.out _).mono ?_; rintro e w1 ⟨rfl, hb1⟩
  have ka : At w1 (W.heap.size) (.int .u8 w) (.int .u64 n) := by have h0 := (((At.new _ _ _ _).alloc _)).keep hb1; simpa using h0
  have la := ka.lt
  have oa := ka
  unfold At at oa
  have kres : At w1 (W.heap.size + 1) (.int .u8 0) (.int .u64 0) := by have h0 := ((At.new _ _ _ _)).keep hb1; simpa using h0
  have lres := kres.lt
  have ores := kres
  unfold At at ores
  have fres : w1.frozen? ⟨W.heap.size + 1, 0, none⟩ = false ∧ w1.frozen? ⟨W.heap.size + 1, 1, none⟩ = false := by constructor <;> (rw [Below.frozen hb1 (by simp)]; simp [go_sem])
  go_wp2_with fail
  refine bodyPost_ret (v := .tuple #[.agg #[.int .u8 0, .int .u64 0], .int .i64 2]) (by simp [results, Try.results43, go_sem, ores]) rfl ⟨rfl, ?_⟩
  exact ((bel_call (bel_alloc (bel_alloc (Below.refl _ _) _) _) hb1).setCell (by first | (simp; done) | (simp; omega) | omega) _).setCell (by first | (simp; done) | (simp; omega) | omega) _

theorem extend_b3 (o w n : Nat) (r : Int) (HA : Hid (mayB w n = true)) (hw : w ≤ 64) (h0 : (w : Int) ≤ r) (h : 64 < r) (W : World) :
    Calls Try.prog 43 #[.int .u8 o, .agg #[.int .u8 w, .int .u64 n], .int .i64 r] W fun e W' => e = .returned (.tuple #[.agg #[.int .u8 0, .int .u64 0], .int .i64 2]) ∧ Below W.heap.size W W' := by
  go_enter Try.func43, Try.ntmps43
  go_wp2_with fail
  refine (may_yes HA.out _).mono ?_; rintro e w1 ⟨rfl, hb1⟩
  have ka : At w1 (W.heap.size) (.int .u8 w) (.int .u64 n) := by have h0 := (((At.new _ _ _ _).alloc _)).keep hb1; simpa using h0
  have la := ka.lt
  have oa := ka
  unfold At at oa
  have kres : At w1 (W.heap.size + 1) (.int .u8 0) (.int .u64 0) := by have h0 := ((At.new _ _ _ _)).keep hb1; simpa using h0
  have lres := kres.lt
  have ores := kres
  unfold At at ores
  have fres : w1.frozen? ⟨W.heap.size + 1, 0, none⟩ = false ∧ w1.frozen? ⟨W.heap.size + 1, 1, none⟩ = false := by constructor <;> (rw [Below.frozen hb1 (by simp)]; simp [go_sem])
  go_wp2_with fail
  refine bodyPost_ret (v := .tuple #[.agg #[.int .u8 0, .int .u64 0], .int .i64 2]) (by simp [results, Try.results43, go_sem, ores]) rfl ⟨rfl, ?_⟩
  exact ((bel_call (bel_alloc (bel_alloc (Below.refl _ _) _) _) hb1).setCell (by first | (simp; done) | (simp; omega) | omega) _).setCell (by first | (simp; done) | (simp; omega) | omega) _

theorem extend_b4 (o w n : Nat) (r : Int) (HA : Hid (mayB w n = true)) (hw : w ≤ 64) (h0 : (w : Int) ≤ r) (h1 : r ≤ 64) (d3 : ((o : Int) == 23) = false) (d4 : ((o : Int) == 24) = false) (W : World) :
    Calls Try.prog 43 #[.int .u8 o, .agg #[.int .u8 w, .int .u64 n], .int .i64 r] W fun e W' => e = .returned (.tuple #[.agg #[.int .u8 0, .int .u64 0], .int .i64 2]) ∧ Below W.heap.size W W' := by
  go_enter Try.func43, Try.ntmps43
  go_wp2_with fail
  refine (may_yes HA.out _).mono ?_; rintro e w1 ⟨rfl, hb1⟩
  have ka : At w1 (W.heap.size) (.int .u8 w) (.int .u64 n) := by have h0 := (((At.new _ _ _ _).alloc _)).keep hb1; simpa using h0
  have la := ka.lt
  have oa := ka
  unfold At at oa
  have kres : At w1 (W.heap.size + 1) (.int .u8 0) (.int .u64 0) := by have h0 := ((At.new _ _ _ _)).keep hb1; simpa using h0
  have lres := kres.lt
  have ores := kres
  unfold At at ores
  have fres : w1.frozen? ⟨W.heap.size + 1, 0, none⟩ = false ∧ w1.frozen? ⟨W.heap.size + 1, 1, none⟩ = false := by constructor <;> (rw [Below.frozen hb1 (by simp)]; simp [go_sem])
  go_wp2_with fail
  refine bodyPost_ret (v := .tuple #[.agg #[.int .u8 0, .int .u64 0], .int .i64 2]) (by simp [results, Try.results43, go_sem, ores]) rfl ⟨rfl, ?_⟩
  exact ((bel_call (bel_alloc (bel_alloc (Below.refl _ _) _) _) hb1).setCell (by first | (simp; done) | (simp; omega) | omega) _).setCell (by first | (simp; done) | (simp; omega) | omega) _

theorem ite_b1 (cw cn w n v m : Nat) (HC : Hid (mayB cw cn = false)) (W : World) :
    Calls Try.prog 44 #[.agg #[.int .u8 cw, .int .u64 cn], .agg #[.int .u8 w, .int .u64 n], .agg #[.int .u8 v, .int .u64 m]] W fun e W' => e = .returned (.tuple #[.agg #[.int .u8 0, .int .u64 0], .int .i64 2]) ∧ Below W.heap.size W W' := by
  go_enter Try.func44, Try.ntmps44
  go_wp2_with fail
  refine (may_no HC.out _).mono ?_; rintro e w1 ⟨rfl, hb1⟩
  have kc : At w1 (W.heap.size) (.int .u8 cw) (.int .u64 cn) := by have h0 := (((((At.new _ _ _ _).alloc _).alloc _).alloc _)).keep hb1; simpa using h0
  have lc := kc.lt
  have oc := kc
  unfold At at oc
  have ka : At w1 (W.heap.size + 1) (.int .u8 w) (.int .u64 n) := by have h0 := ((((At.new _ _ _ _).alloc _).alloc _)).keep hb1; simpa using h0
  have la := ka.lt
  have oa := ka
  unfold At at oa
  have kb : At w1 (W.heap.size + 1 + 1) (.int .u8 v) (.int .u64 m) := by have h0 := (((At.new _ _ _ _).alloc _)).keep hb1; simpa using h0
  have lb := kb.lt
  have ob := kb
  unfold At at ob
  have kres : At w1 (W.heap.size + 1 + 1 + 1) (.int .u8 0) (.int .u64 0) := by have h0 := ((At.new _ _ _ _)).keep hb1; simpa using h0
  have lres := kres.lt
  have ores := kres
  unfold At at ores
  have fres : w1.frozen? ⟨W.heap.size + 1 + 1 + 1, 0, none⟩ = false ∧ w1.frozen? ⟨W.heap.size + 1 + 1 + 1, 1, none⟩ = false := by constructor <;> (rw [Below.frozen hb1 (by simp)]; simp [go_sem])
  go_wp2_with fail
  refine bodyPost_ret (v := .tuple #[.agg #[.int .u8 0, .int .u64 0], .int .i64 2]) (by simp [results, Try.results44, go_sem, ores]) rfl ⟨rfl, ?_⟩
  exact ((bel_call (bel_alloc (bel_alloc (bel_alloc (bel_alloc (Below.refl _ _) _) _) _) _) hb1).setCell (by first | (simp; done) | (simp; omega) | omega) _).setCell (by first | (simp; done) | (simp; omega) | omega) _

theorem ite_b2 (cw cn w n v m : Nat) (HC : Hid (mayB cw cn = true)) (HA : Hid (mayB w n = false)) (W : World) :
    Calls Try.prog 44 #[.agg #[.int .u8 cw, .int .u64 cn], .agg #[.int .u8 w, .int .u64 n], .agg #[.int .u8 v, .int .u64 m]] W fun e W' => e = .returned (.tuple #[.agg #[.int .u8 0, .int .u64 0], .int .i64 2]) ∧ Below W.heap.size W W' := by
  go_enter Try.func44, Try.ntmps44
  go_wp2_with fail
  refine (may_yes HC.out _).mono ?_; rintro e w1 ⟨rfl, hb1⟩
  have kc : At w1 (W.heap.size) (.int .u8 cw) (.int .u64 cn) := by have h0 := (((((At.new _ _ _ _).alloc _).alloc _).alloc _)).keep hb1; simpa using h0
  have lc := kc.lt
  have oc := kc
  unfold At at oc
  have ka : At w1 (W.heap.size + 1) (.int .u8 w) (.int .u64 n) := by have h0 := ((((At.new _ _ _ _).alloc _).alloc _)).keep hb1; simpa using h0
  have la := ka.lt
  have oa := ka
  unfold At at oa
  have kb : At w1 (W.heap.size + 1 + 1) (.int .u8 v) (.int .u64 m) := by have h0 := (((At.new _ _ _ _).alloc _)).keep hb1; simpa using h0
  have lb := kb.lt
  have ob := kb
  unfold At at ob
  have kres : At w1 (W.heap.size + 1 + 1 + 1) (.int .u8 0) (.int .u64 0) := by have h0 := ((At.new _ _ _ _)).keep hb1; simpa using h0
  have lres := kres.lt
  have ores := kres
  unfold At at ores
  have fres : w1.frozen? ⟨W.heap.size + 1 + 1 + 1, 0, none⟩ = false ∧ w1.frozen? ⟨W.heap.size + 1 + 1 + 1, 1, none⟩ = false := by constructor <;> (rw [Below.frozen hb1 (by simp)]; simp [go_sem])
  go_wp2_with fail
  refine (may_no HA.out _).mono ?_; rintro e w2 ⟨rfl, hb2⟩
  replace kc := kc.keep hb2
  replace lc := kc.lt
  replace oc := kc
  unfold At at oc
  replace ka := ka.keep hb2
  replace la := ka.lt
  replace oa := ka
  unfold At at oa
  replace kb := kb.keep hb2
  replace lb := kb.lt
  replace ob := kb
  unfold At at ob
  replace fres : w2.frozen? ⟨W.heap.size + 1 + 1 + 1, 0, none⟩ = false ∧ w2.frozen? ⟨W.heap.size + 1 + 1 + 1, 1, none⟩ = false := ⟨(Below.frozen hb2 (p := ⟨_, 0, none⟩) lres).trans fres.1, (Below.frozen hb2 (p := ⟨_, 1, none⟩) lres).trans fres.2⟩
  replace kres := kres.keep hb2
  replace lres := kres.lt
  replace ores := kres
  unfold At at ores
  go_wp2_with fail
  refine bodyPost_ret (v := .tuple #[.agg #[.int .u8 0, .int .u64 0], .int .i64 2]) (by simp [results, Try.results44, go_sem, ores]) rfl ⟨rfl, ?_⟩
  exact ((bel_call (bel_call (bel_alloc (bel_alloc (bel_alloc (bel_alloc (Below.refl _ _) _) _) _) _) hb1) hb2).setCell (by first | (simp; done) | (simp; omega) | omega) _).setCell (by first | (simp; done) | (simp; omega) | omega) _

theorem ite_b3 (cw cn w n v m : Nat) (HC : Hid (mayB cw cn = true)) (HA : Hid (mayB w n = true)) (HB : Hid (mayB v m = false)) (W : World) :
    Calls Try.prog 44 #[.agg #[.int .u8 cw, .int .u64 cn], .agg #[.int .u8 w, .int .u64 n], .agg #[.int .u8 v, .int .u64 m]] W fun e W' => e = .returned (.tuple #[.agg #[.int .u8 0, .int .u64 0], .int .i64 2]) ∧ Below W.heap.size W W' := by
  go_enter Try.func44, Try.ntmps44
  go_wp2_with fail
  refine (may_yes HC.out _).mono ?_; rintro e w1 ⟨rfl, hb1⟩
  have kc : At w1 (W.heap.size) (.int .u8 cw) (.int .u64 cn) := by have h0 := (((((At.new _ _ _ _).alloc _).alloc _).alloc _)).keep hb1; simpa using h0
  have lc := kc.lt
  have oc := kc
  unfold At at oc
  have ka : At w1 (W.heap.size + 1) (.int .u8 w) (.int .u64 n) := by have h0 := ((((At.new _ _ _ _).alloc _).alloc _)).keep hb1; simpa using h0
  have la := ka.lt
  have oa := ka
  unfold At at oa
  have kb : At w1 (W.heap.size + 1 + 1) (.int .u8 v) (.int .u64 m) := by have h0 := (((At.new _ _ _ _).alloc _)).keep hb1; simpa using h0
  have lb := kb.lt
  have ob := kb
  unfold At at ob
  have kres : At w1 (W.heap.size + 1 + 1 + 1) (.int .u8 0) (.int .u64 0) := by have h0 := ((At.new _ _ _ _)).keep hb1; simpa using h0
  have lres := kres.lt
  have ores := kres
  unfold At at ores
  have fres : w1.frozen? ⟨W.heap.size + 1 + 1 + 1, 0, none⟩ = false ∧ w1.frozen? ⟨W.heap.size + 1 + 1 + 1, 1, none⟩ = false := by constructor <;> (rw [Below.frozen hb1 (by simp)]; simp [go_sem])
  go_wp2_with fail
  refine (may_yes HA.out _).mono ?_; rintro e w2 ⟨rfl, hb2⟩
  replace kc := kc.keep hb2
  replace lc := kc.lt
  replace oc := kc
  unfold At at oc
  replace ka := ka.keep hb2
  replace la := ka.lt
  replace oa := ka
  unfold At at oa
  replace kb := kb.keep hb2
  replace lb := kb.lt
  replace ob := kb
  unfold At at ob
  replace fres : w2.frozen? ⟨W.heap.size + 1 + 1 + 1, 0, none⟩ = false ∧ w2.frozen? ⟨W.heap.size + 1 + 1 + 1, 1, none⟩ = false := ⟨(Below.frozen hb2 (p := ⟨_, 0, none⟩) lres).trans fres.1, (Below.frozen hb2 (p := ⟨_, 1, none⟩) lres).trans fres.2⟩
  replace kres := kres.keep hb2
  replace lres := kres.lt
  replace ores := kres
  unfold At at ores
  go_wp2_with fail
  refine (may_no HB.out _).mono ?_; rintro e w3 ⟨rfl, hb3⟩
  replace kc := kc.keep hb3
  replace lc := kc.lt
  replace oc := kc
  unfold At at oc
  replace ka := ka.keep hb3
  replace la := ka.lt
  replace oa := ka
  unfold At at oa
  replace kb := kb.keep hb3
  replace lb := kb.lt
  replace ob := kb
  unfold At at ob
  replace fres : w3.frozen? ⟨W.heap.size + 1 + 1 + 1, 0, none⟩ = false ∧ w3.frozen? ⟨W.heap.size + 1 + 1 + 1, 1, none⟩ = false := ⟨(Below.frozen hb3 (p := ⟨_, 0, none⟩) lres).trans fres.1, (Below.frozen hb3 (p := ⟨_, 1, none⟩) lres).trans fres.2⟩
  replace kres := kres.keep hb3
  replace lres := kres.lt
  replace ores := kres
  unfold At at ores
  go_wp2_with fail
  refine bodyPost_ret (v := .tuple #[.agg #[.int .u8 0, .int .u64 0], .int .i64 2]) (by simp [results, Try.results44, go_sem, ores]) rfl ⟨rfl, ?_⟩
  exact ((bel_call (bel_call (bel_call (bel_alloc (bel_alloc (bel_alloc (bel_alloc (Below.refl _ _) _) _) _) _) hb1) hb2) hb3).setCell (by first | (simp; done) | (simp; omega) | omega) _).setCell (by first | (simp; done) | (simp; omega) | omega) _

theorem ite_b4 (cw cn w n v m : Nat) (HC : Hid (mayB cw cn = true)) (HA : Hid (mayB w n = true)) (HB : Hid (mayB v m = true)) (h1 : ((cw : Int) != 1) = true) (W : World) :
    Calls Try.prog 44 #[.agg #[.int .u8 cw, .int .u64 cn], .agg #[.int .u8 w, .int .u64 n], .agg #[.int .u8 v, .int .u64 m]] W fun e W' => e = .returned (.tuple #[.agg #[.int .u8 0, .int .u64 0], .int .i64 2]) ∧ Below W.heap.size W W' := by
  go_enter Try.func44, Try.ntmps44
  go_wp2_with fail
  refine (may_yes HC.out _).mono ?_; rintro e w1 ⟨rfl, hb1⟩
  have kc : At w1 (W.heap.size) (.int .u8 cw) (.int .u64 cn) := by have h0 := (((((At.new _ _ _ _).alloc _).alloc _).alloc _)).keep hb1; simpa using h0
  have lc := kc.lt
  have oc := kc
  unfold At at oc
  have ka : At w1 (W.heap.size + 1) (.int .u8 w) (.int .u64 n) := by have h0 := ((((At.new _ _ _ _).alloc _).alloc _)).keep hb1; simpa using h0
  have la := ka.lt
  have oa := ka
  unfold At at oa
  have kb : At w1 (W.heap.size + 1 + 1) (.int .u8 v) (.int .u64 m) := by have h0 := (((At.new _ _ _ _).alloc _)).keep hb1; simpa using h0
  have lb := kb.lt
  have ob := kb
  unfold At at ob
  have kres : At w1 (W.heap.size + 1 + 1 + 1) (.int .u8 0) (.int .u64 0) := by have h0 := ((At.new _ _ _ _)).keep hb1; simpa using h0
  have lres := kres.lt
  have ores := kres
  unfold At at ores
  have fres : w1.frozen? ⟨W.heap.size + 1 + 1 + 1, 0, none⟩ = false ∧ w1.frozen? ⟨W.heap.size + 1 + 1 + 1, 1, none⟩ = false := by constructor <;> (rw [Below.frozen hb1 (by simp)]; simp [go_sem])
  go_wp2_with fail
  refine (may_yes HA.out _).mono ?_; rintro e w2 ⟨rfl, hb2⟩
  replace kc := kc.keep hb2
  replace lc := kc.lt
  replace oc := kc
  unfold At at oc
  replace ka := ka.keep hb2
  replace la := ka.lt
  replace oa := ka
  unfold At at oa
  replace kb := kb.keep hb2
  replace lb := kb.lt
  replace ob := kb
  unfold At at ob
  replace fres : w2.frozen? ⟨W.heap.size + 1 + 1 + 1, 0, none⟩ = false ∧ w2.frozen? ⟨W.heap.size + 1 + 1 + 1, 1, none⟩ = false := ⟨(Below.frozen hb2 (p := ⟨_, 0, none⟩) lres).trans fres.1, (Below.frozen hb2 (p := ⟨_, 1, none⟩) lres).trans fres.2⟩
  replace kres := kres.keep hb2
  replace lres := kres.lt
  replace ores := kres
  unfold At at ores
  go_wp2_with fail
  refine (may_yes HB.out _).mono ?_; rintro e w3 ⟨rfl, hb3⟩
  replace kc := kc.keep hb3
  replace lc := kc.lt
  replace oc := kc
  unfold At at oc
  replace ka := ka.keep hb3
  replace la := ka.lt
  replace oa := ka
  unfold At at oa
  replace kb := kb.keep hb3
  replace lb := kb.lt
  replace ob := kb
  unfold At at ob
  replace fres : w3.frozen? ⟨W.heap.size + 1 + 1 + 1, 0, none⟩ = false ∧ w3.frozen? ⟨W.heap.size + 1 + 1 + 1, 1, none⟩ = false := ⟨(Below.frozen hb3 (p := ⟨_, 0, none⟩) lres).trans fres.1, (Below.frozen hb3 (p := ⟨_, 1, none⟩) lres).trans fres.2⟩
  replace kres := kres.keep hb3
  replace lres := kres.lt
  replace ores := kres
  unfold At at ores
  go_wp2_with fail
  refine bodyPost_ret (v := .tuple #[.agg #[.int .u8 0, .int .u64 0], .int .i64 2]) (by simp [results, Try.results44, go_sem, ores]) rfl ⟨rfl, ?_⟩
  exact ((bel_call (bel_call (bel_call (bel_alloc (bel_alloc (bel_alloc (bel_alloc (Below.refl _ _) _) _) _) _) hb1) hb2) hb3).setCell (by first | (simp; done) | (simp; omega) | omega) _).setCell (by first | (simp; done) | (simp; omega) | omega) _

theorem ite_b5 (cw cn w n v m : Nat) (HC : Hid (mayB cw cn = true)) (HA : Hid (mayB w n = true)) (HB : Hid (mayB v m = true)) (h1 : ((cw : Int) != 1) = false) (h2 : ((w : Int) != (v : Int)) = true) (W : World) :
    Calls Try.prog 44 #[.agg #[.int .u8 cw, .int .u64 cn], .agg #[.int .u8 w, .int .u64 n], .agg #[.int .u8 v, .int .u64 m]] W fun e W' => e = .returned (.tuple #[.agg #[.int .u8 0, .int .u64 0], .int .i64 2]) ∧ Below W.heap.size W W' := by
  go_enter Try.func44, Try.ntmps44
  go_wp2_with fail
  refine (may_yes HC.out _).mono ?_; rintro e w1 ⟨rfl, hb1⟩
  have kc : At w1 (W.heap.size) (.int .u8 cw) (.int .u64 cn) := by have h0 := (((((At.new _ _ _ _).alloc _).alloc _).alloc _)).keep hb1; simpa using h0
  have lc := kc.lt
  have oc := kc
  unfold At at oc
  have ka : At w1 (W.heap.size + 1) (.int .u8 w) (.int .u64 n) := by have h0 := ((((At.new _ _ _ _).alloc _).alloc _)).keep hb1; simpa using h0
  have la := ka.lt
  have oa := ka
  unfold At at oa
  have kb : At w1 (W.heap.size + 1 + 1) (.int .u8 v) (.int .u64 m) := by have h0 := (((At.new _ _ _ _).alloc _)).keep hb1; simpa using h0
  have lb := kb.lt
  have ob := kb
  unfold At at ob
  have kres : At w1 (W.heap.size + 1 + 1 + 1) (.int .u8 0) (.int .u64 0) := by have h0 := ((At.new _ _ _ _)).keep hb1; simpa using h0
  have lres := kres.lt
  have ores := kres
  unfold At at ores
  have fres : w1.frozen? ⟨W.heap.size + 1 + 1 + 1, 0, none⟩ = false ∧ w1.frozen? ⟨W.heap.size + 1 + 1 + 1, 1, none⟩ = false := by constructor <;> (rw [Below.frozen hb1 (by simp)]; simp [go_sem])
  go_wp2_with fail
  refine (may_yes HA.out _).mono ?_; rintro e w2 ⟨rfl, hb2⟩
  replace kc := kc.keep hb2
  replace lc := kc.lt
  replace oc := kc
  unfold At at oc
  replace ka := ka.keep hb2
  replace la := ka.lt
  replace oa := ka
  unfold At at oa
  replace kb := kb.keep hb2
  replace lb := kb.lt
  replace ob := kb
  unfold At at ob
  replace fres : w2.frozen? ⟨W.heap.size + 1 + 1 + 1, 0, none⟩ = false ∧ w2.frozen? ⟨W.heap.size + 1 + 1 + 1, 1, none⟩ = false := ⟨(Below.frozen hb2 (p := ⟨_, 0, none⟩) lres).trans fres.1, (Below.frozen hb2 (p := ⟨_, 1, none⟩) lres).trans fres.2⟩
  replace kres := kres.keep hb2
  replace lres := kres.lt
  replace ores := kres
  unfold At at ores
  go_wp2_with fail
  refine (may_yes HB.out _).mono ?_; rintro e w3 ⟨rfl, hb3⟩
  replace kc := kc.keep hb3
  replace lc := kc.lt
  replace oc := kc
  unfold At at oc
  replace ka := ka.keep hb3
  replace la := ka.lt
  replace oa := ka
  unfold At at oa
  replace kb := kb.keep hb3
  replace lb := kb.lt
  replace ob := kb
  unfold At at ob
  replace fres : w3.frozen? ⟨W.heap.size + 1 + 1 + 1, 0, none⟩ = false ∧ w3.frozen? ⟨W.heap.size + 1 + 1 + 1, 1, none⟩ = false := ⟨(Below.frozen hb3 (p := ⟨_, 0, none⟩) lres).trans fres.1, (Below.frozen hb3 (p := ⟨_, 1, none⟩) lres).trans fres.2⟩
  replace kres := kres.keep hb3
  replace lres := kres.lt
  replace ores := kres
  unfold At at ores
  go_wp2_with fail
  refine bodyPost_ret (v := .tuple #[.agg #[.int .u8 0, .int .u64 0], .int .i64 2]) (by simp [results, Try.results44, go_sem, ores]) rfl ⟨rfl, ?_⟩
  exact ((bel_call (bel_call (bel_call (bel_alloc (bel_alloc (bel_alloc (bel_alloc (Below.refl _ _) _) _) _) _) hb1) hb2) hb3).setCell (by first | (simp; done) | (simp; omega) | omega) _).setCell (by first | (simp; done) | (simp; omega) | omega) _

theorem ite_a (cw cn w n v m : Nat) (HC : Hid (mayB cw cn = true)) (HA : Hid (mayB w n = true)) (HB : Hid (mayB v m = true)) (h1 : ((cw : Int) != 1) = false) (h2 : ((w : Int) != (v : Int)) = false) (h3 : ((cn : Int) == 1) = true) (W : World) :
    Calls Try.prog 44 #[.agg #[.int .u8 cw, .int .u64 cn], .agg #[.int .u8 w, .int .u64 n], .agg #[.int .u8 v, .int .u64 m]] W fun e W' => e = .returned (.tuple #[.agg #[.int .u8 w, .int .u64 n], .int .i64 0]) ∧ Below W.heap.size W W' := by
  go_enter Try.func44, Try.ntmps44
  go_wp2_with fail
  refine (may_yes HC.out _).mono ?_; rintro e w1 ⟨rfl, hb1⟩
  have kc : At w1 (W.heap.size) (.int .u8 cw) (.int .u64 cn) := by have h0 := (((((At.new _ _ _ _).alloc _).alloc _).alloc _)).keep hb1; simpa using h0
  have lc := kc.lt
  have oc := kc
  unfold At at oc
  have ka : At w1 (W.heap.size + 1) (.int .u8 w) (.int .u64 n) := by have h0 := ((((At.new _ _ _ _).alloc _).alloc _)).keep hb1; simpa using h0
  have la := ka.lt
  have oa := ka
  unfold At at oa
  have kb : At w1 (W.heap.size + 1 + 1) (.int .u8 v) (.int .u64 m) := by have h0 := (((At.new _ _ _ _).alloc _)).keep hb1; simpa using h0
  have lb := kb.lt
  have ob := kb
  unfold At at ob
  have kres : At w1 (W.heap.size + 1 + 1 + 1) (.int .u8 0) (.int .u64 0) := by have h0 := ((At.new _ _ _ _)).keep hb1; simpa using h0
  have lres := kres.lt
  have ores := kres
  unfold At at ores
  have fres : w1.frozen? ⟨W.heap.size + 1 + 1 + 1, 0, none⟩ = false ∧ w1.frozen? ⟨W.heap.size + 1 + 1 + 1, 1, none⟩ = false := by constructor <;> (rw [Below.frozen hb1 (by simp)]; simp [go_sem])
  go_wp2_with fail
  refine (may_yes HA.out _).mono ?_; rintro e w2 ⟨rfl, hb2⟩
  replace kc := kc.keep hb2
  replace lc := kc.lt
  replace oc := kc
  unfold At at oc
  replace ka := ka.keep hb2
  replace la := ka.lt
  replace oa := ka
  unfold At at oa
  replace kb := kb.keep hb2
  replace lb := kb.lt
  replace ob := kb
  unfold At at ob
  replace fres : w2.frozen? ⟨W.heap.size + 1 + 1 + 1, 0, none⟩ = false ∧ w2.frozen? ⟨W.heap.size + 1 + 1 + 1, 1, none⟩ = false := ⟨(Below.frozen hb2 (p := ⟨_, 0, none⟩) lres).trans fres.1, (Below.frozen hb2 (p := ⟨_, 1, none⟩) lres).trans fres.2⟩
  replace kres := kres.keep hb2
  replace lres := kres.lt
  replace ores := kres
  unfold At at ores
  go_wp2_with fail
  refine (may_yes HB.out _).mono ?_; rintro e w3 ⟨rfl, hb3⟩
  replace kc := kc.keep hb3
  replace lc := kc.lt
  replace oc := kc
  unfold At at oc
  replace ka := ka.keep hb3
  replace la := ka.lt
  replace oa := ka
  unfold At at oa
  replace kb := kb.keep hb3
  replace lb := kb.lt
  replace ob := kb
  unfold At at ob
  replace fres : w3.frozen? ⟨W.heap.size + 1 + 1 + 1, 0, none⟩ = false ∧ w3.frozen? ⟨W.heap.size + 1 + 1 + 1, 1, none⟩ = false := ⟨(Below.frozen hb3 (p := ⟨_, 0, none⟩) lres).trans fres.1, (Below.frozen hb3 (p := ⟨_, 1, none⟩) lres).trans fres.2⟩
  replace kres := kres.keep hb3
  replace lres := kres.lt
  replace ores := kres
  unfold At at ores
  go_wp2_with fail
  refine bodyPost_ret (v := .tuple #[.agg #[.int .u8 w, .int .u64 n], .int .i64 0]) (by simp [results, Try.results44, go_sem, ores]) rfl ⟨rfl, ?_⟩
  exact ((bel_call (bel_call (bel_call (bel_alloc (bel_alloc (bel_alloc (bel_alloc (Below.refl _ _) _) _) _) _) hb1) hb2) hb3).setCell (by first | (simp; done) | (simp; omega) | omega) _).setCell (by first | (simp; done) | (simp; omega) | omega) _

theorem ite_b (cw cn w n v m : Nat) (HC : Hid (mayB cw cn = true)) (HA : Hid (mayB w n = true)) (HB : Hid (mayB v m = true)) (h1 : ((cw : Int) != 1) = false) (h2 : ((w : Int) != (v : Int)) = false) (h3 : ((cn : Int) == 1) = false) (W : World) :
    Calls Try.prog 44 #[.agg #[.int .u8 cw, .int .u64 cn], .agg #[.int .u8 w, .int .u64 n], .agg #[.int .u8 v, .int .u64 m]] W fun e W' => e = .returned (.tuple #[.agg #[.int .u8 v, .int .u64 m], .int .i64 0]) ∧ Below W.heap.size W W' := by
  go_enter Try.func44, Try.ntmps44
  go_wp2_with fail
  refine (may_yes HC.out _).mono ?_; rintro e w1 ⟨rfl, hb1⟩
  have kc : At w1 (W.heap.size) (.int .u8 cw) (.int .u64 cn) := by have h0 := (((((At.new _ _ _ _).alloc _).alloc _).alloc _)).keep hb1; simpa using h0
  have lc := kc.lt
  have oc := kc
  unfold At at oc
  have ka : At w1 (W.heap.size + 1) (.int .u8 w) (.int .u64 n) := by have h0 := ((((At.new _ _ _ _).alloc _).alloc _)).keep hb1; simpa using h0
  have la := ka.lt
  have oa := ka
  unfold At at oa
  have kb : At w1 (W.heap.size + 1 + 1) (.int .u8 v) (.int .u64 m) := by have h0 := (((At.new _ _ _ _).alloc _)).keep hb1; simpa using h0
  have lb := kb.lt
  have ob := kb
  unfold At at ob
  have kres : At w1 (W.heap.size + 1 + 1 + 1) (.int .u8 0) (.int .u64 0) := by have h0 := ((At.new _ _ _ _)).keep hb1; simpa using h0
  have lres := kres.lt
  have ores := kres
  unfold At at ores
  have fres : w1.frozen? ⟨W.heap.size + 1 + 1 + 1, 0, none⟩ = false ∧ w1.frozen? ⟨W.heap.size + 1 + 1 + 1, 1, none⟩ = false := by constructor <;> (rw [Below.frozen hb1 (by simp)]; simp [go_sem])
  go_wp2_with fail
  refine (may_yes HA.out _).mono ?_; rintro e w2 ⟨rfl, hb2⟩
  replace kc := kc.keep hb2
  replace lc := kc.lt
  replace oc := kc
  unfold At at oc
  replace ka := ka.keep hb2
  replace la := ka.lt
  replace oa := ka
  unfold At at oa
  replace kb := kb.keep hb2
  replace lb := kb.lt
  replace ob := kb
  unfold At at ob
  replace fres : w2.frozen? ⟨W.heap.size + 1 + 1 + 1, 0, none⟩ = false ∧ w2.frozen? ⟨W.heap.size + 1 + 1 + 1, 1, none⟩ = false := ⟨(Below.frozen hb2 (p := ⟨_, 0, none⟩) lres).trans fres.1, (Below.frozen hb2 (p := ⟨_, 1, none⟩) lres).trans fres.2⟩
  replace kres := kres.keep hb2
  replace lres := kres.lt
  replace ores := kres
  unfold At at ores
  go_wp2_with fail
  refine (may_yes HB.out _).mono ?_; rintro e w3 ⟨rfl, hb3⟩
  replace kc := kc.keep hb3
  replace lc := kc.lt
  replace oc := kc
  unfold At at oc
  replace ka := ka.keep hb3
  replace la := ka.lt
  replace oa := ka
  unfold At at oa
  replace kb := kb.keep hb3
  replace lb := kb.lt
  replace ob := kb
  unfold At at ob
  replace fres : w3.frozen? ⟨W.heap.size + 1 + 1 + 1, 0, none⟩ = false ∧ w3.frozen? ⟨W.heap.size + 1 + 1 + 1, 1, none⟩ = false := ⟨(Below.frozen hb3 (p := ⟨_, 0, none⟩) lres).trans fres.1, (Below.frozen hb3 (p := ⟨_, 1, none⟩) lres).trans fres.2⟩
  replace kres := kres.keep hb3
  replace lres := kres.lt
  replace ores := kres
  unfold At at ores
  go_wp2_with fail
  refine bodyPost_ret (v := .tuple #[.agg #[.int .u8 v, .int .u64 m], .int .i64 0]) (by simp [results, Try.results44, go_sem, ores]) rfl ⟨rfl, ?_⟩
  exact ((bel_call (bel_call (bel_call (bel_alloc (bel_alloc (bel_alloc (bel_alloc (Below.refl _ _) _) _) _) _) hb1) hb2) hb3).setCell (by first | (simp; done) | (simp; omega) | omega) _).setCell (by first | (simp; done) | (simp; omega) | omega) _

end Bv
end Go.Proofs.Ytjhghfndhpaapaa
