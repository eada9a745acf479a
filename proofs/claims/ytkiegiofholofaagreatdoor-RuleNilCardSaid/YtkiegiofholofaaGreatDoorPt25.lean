/-
What layer text reads of package-level variables; an operator's name, of a number and the number of a name; how many kids an operator has: facts on one call.
The reader of layer text: what it has in memory; has, need, run, number, short as facts on one call.
The reader of layer text: run, number, short as facts on one call.
The reader of layer text: number, short as facts on one call.
-/
import Derived.Test.YtkiegiofholofaaGreatDoorPt24
import Derived.Deep.LoopGhost
import Derived.Lib.Walk
import Derived.BigGuard
import Derived.BigCall
namespace Go.Proofs.YtkiegiofholofaaGreatDoor
open Go.RowKit Go.Maps Bv Tm
namespace Tx
set_option maxHeartbeats 1600000
set_option maxRecDepth 100000

/-! ### how many kids -/
theorem tk_1 (W : World) : Calls Tryz.prog 60 #[.int .u8 1] W fun e W' => e = .returned (.int .i64 0) ∧ W = W' := by
  go_enter Tryz.func60, Tryz.ntmps60
  go_wp2_with fail
  repeat' (first | ((with_reducible refine wp_exit ?_); (repeat (first | (with_reducible refine ex_then ?_) | (with_reducible refine ex_near ?_) | (refine ex_far (by decide) ?_))); (with_reducible refine ex_go ?_)) | go_values | go_skip | go_guarded | go_step | go_upon)
  go_ret
  exact ⟨rfl, rfl⟩
theorem tk_2 (W : World) : Calls Tryz.prog 60 #[.int .u8 2] W fun e W' => e = .returned (.int .i64 0) ∧ W = W' := by
  go_enter Tryz.func60, Tryz.ntmps60
  go_wp2_with fail
  repeat' (first | ((with_reducible refine wp_exit ?_); (repeat (first | (with_reducible refine ex_then ?_) | (with_reducible refine ex_near ?_) | (refine ex_far (by decide) ?_))); (with_reducible refine ex_go ?_)) | go_values | go_skip | go_guarded | go_step | go_upon)
  go_ret
  exact ⟨rfl, rfl⟩
theorem tk_3 (W : World) : Calls Tryz.prog 60 #[.int .u8 3] W fun e W' => e = .returned (.int .i64 1) ∧ W = W' := by
  go_enter Tryz.func60, Tryz.ntmps60
  go_wp2_with fail
  repeat' (first | ((with_reducible refine wp_exit ?_); (repeat (first | (with_reducible refine ex_then ?_) | (with_reducible refine ex_near ?_) | (refine ex_far (by decide) ?_))); (with_reducible refine ex_go ?_)) | go_values | go_skip | go_guarded | go_step | go_upon)
  go_ret
  exact ⟨rfl, rfl⟩
theorem tk_4 (W : World) : Calls Tryz.prog 60 #[.int .u8 4] W fun e W' => e = .returned (.int .i64 1) ∧ W = W' := by
  go_enter Tryz.func60, Tryz.ntmps60
  go_wp2_with fail
  repeat' (first | ((with_reducible refine wp_exit ?_); (repeat (first | (with_reducible refine ex_then ?_) | (with_reducible refine ex_near ?_) | (refine ex_far (by decide) ?_))); (with_reducible refine ex_go ?_)) | go_values | go_skip | go_guarded | go_step | go_upon)
  go_ret
  exact ⟨rfl, rfl⟩
theorem tk_5 (W : World) : Calls Tryz.prog 60 #[.int .u8 5] W fun e W' => e = .returned (.int .i64 2) ∧ W = W' := by
  go_enter Tryz.func60, Tryz.ntmps60
  go_wp2_with fail
  repeat' (first | ((with_reducible refine wp_exit ?_); (repeat (first | (with_reducible refine ex_then ?_) | (with_reducible refine ex_near ?_) | (refine ex_far (by decide) ?_))); (with_reducible refine ex_go ?_)) | go_values | go_skip | go_guarded | go_step | go_upon)
  go_ret
  exact ⟨rfl, rfl⟩
theorem tk_6 (W : World) : Calls Tryz.prog 60 #[.int .u8 6] W fun e W' => e = .returned (.int .i64 2) ∧ W = W' := by
  go_enter Tryz.func60, Tryz.ntmps60
  go_wp2_with fail
  repeat' (first | ((with_reducible refine wp_exit ?_); (repeat (first | (with_reducible refine ex_then ?_) | (with_reducible refine ex_near ?_) | (refine ex_far (by decide) ?_))); (with_reducible refine ex_go ?_)) | go_values | go_skip | go_guarded | go_step | go_upon)
  go_ret
  exact ⟨rfl, rfl⟩
theorem tk_7 (W : World) : Calls Tryz.prog 60 #[.int .u8 7] W fun e W' => e = .returned (.int .i64 2) ∧ W = W' := by
  go_enter Tryz.func60, Tryz.ntmps60
  go_wp2_with fail
  repeat' (first | ((with_reducible refine wp_exit ?_); (repeat (first | (with_reducible refine ex_then ?_) | (with_reducible refine ex_near ?_) | (refine ex_far (by decide) ?_))); (with_reducible refine ex_go ?_)) | go_values | go_skip | go_guarded | go_step | go_upon)
  go_ret
  exact ⟨rfl, rfl⟩
theorem tk_8 (W : World) : Calls Tryz.prog 60 #[.int .u8 8] W fun e W' => e = .returned (.int .i64 2) ∧ W = W' := by
  go_enter Tryz.func60, Tryz.ntmps60
  go_wp2_with fail
  repeat' (first | ((with_reducible refine wp_exit ?_); (repeat (first | (with_reducible refine ex_then ?_) | (with_reducible refine ex_near ?_) | (refine ex_far (by decide) ?_))); (with_reducible refine ex_go ?_)) | go_values | go_skip | go_guarded | go_step | go_upon)
  go_ret
  exact ⟨rfl, rfl⟩
theorem tk_9 (W : World) : Calls Tryz.prog 60 #[.int .u8 9] W fun e W' => e = .returned (.int .i64 2) ∧ W = W' := by
  go_enter Tryz.func60, Tryz.ntmps60
  go_wp2_with fail
  repeat' (first | ((with_reducible refine wp_exit ?_); (repeat (first | (with_reducible refine ex_then ?_) | (with_reducible refine ex_near ?_) | (refine ex_far (by decide) ?_))); (with_reducible refine ex_go ?_)) | go_values | go_skip | go_guarded | go_step | go_upon)
  go_ret
  exact ⟨rfl, rfl⟩
theorem tk_10 (W : World) : Calls Tryz.prog 60 #[.int .u8 10] W fun e W' => e = .returned (.int .i64 2) ∧ W = W' := by
  go_enter Tryz.func60, Tryz.ntmps60
  go_wp2_with fail
  repeat' (first | ((with_reducible refine wp_exit ?_); (repeat (first | (with_reducible refine ex_then ?_) | (with_reducible refine ex_near ?_) | (refine ex_far (by decide) ?_))); (with_reducible refine ex_go ?_)) | go_values | go_skip | go_guarded | go_step | go_upon)
  go_ret
  exact ⟨rfl, rfl⟩
theorem tk_11 (W : World) : Calls Tryz.prog 60 #[.int .u8 11] W fun e W' => e = .returned (.int .i64 2) ∧ W = W' := by
  go_enter Tryz.func60, Tryz.ntmps60
  go_wp2_with fail
  repeat' (first | ((with_reducible refine wp_exit ?_); (repeat (first | (with_reducible refine ex_then ?_) | (with_reducible refine ex_near ?_) | (refine ex_far (by decide) ?_))); (with_reducible refine ex_go ?_)) | go_values | go_skip | go_guarded | go_step | go_upon)
  go_ret
  exact ⟨rfl, rfl⟩
theorem tk_12 (W : World) : Calls Tryz.prog 60 #[.int .u8 12] W fun e W' => e = .returned (.int .i64 2) ∧ W = W' := by
  go_enter Tryz.func60, Tryz.ntmps60
  go_wp2_with fail
  repeat' (first | ((with_reducible refine wp_exit ?_); (repeat (first | (with_reducible refine ex_then ?_) | (with_reducible refine ex_near ?_) | (refine ex_far (by decide) ?_))); (with_reducible refine ex_go ?_)) | go_values | go_skip | go_guarded | go_step | go_upon)
  go_ret
  exact ⟨rfl, rfl⟩
theorem tk_13 (W : World) : Calls Tryz.prog 60 #[.int .u8 13] W fun e W' => e = .returned (.int .i64 2) ∧ W = W' := by
  go_enter Tryz.func60, Tryz.ntmps60
  go_wp2_with fail
  repeat' (first | ((with_reducible refine wp_exit ?_); (repeat (first | (with_reducible refine ex_then ?_) | (with_reducible refine ex_near ?_) | (refine ex_far (by decide) ?_))); (with_reducible refine ex_go ?_)) | go_values | go_skip | go_guarded | go_step | go_upon)
  go_ret
  exact ⟨rfl, rfl⟩
theorem tk_14 (W : World) : Calls Tryz.prog 60 #[.int .u8 14] W fun e W' => e = .returned (.int .i64 2) ∧ W = W' := by
  go_enter Tryz.func60, Tryz.ntmps60
  go_wp2_with fail
  repeat' (first | ((with_reducible refine wp_exit ?_); (repeat (first | (with_reducible refine ex_then ?_) | (with_reducible refine ex_near ?_) | (refine ex_far (by decide) ?_))); (with_reducible refine ex_go ?_)) | go_values | go_skip | go_guarded | go_step | go_upon)
  go_ret
  exact ⟨rfl, rfl⟩
theorem tk_15 (W : World) : Calls Tryz.prog 60 #[.int .u8 15] W fun e W' => e = .returned (.int .i64 2) ∧ W = W' := by
  go_enter Tryz.func60, Tryz.ntmps60
  go_wp2_with fail
  repeat' (first | ((with_reducible refine wp_exit ?_); (repeat (first | (with_reducible refine ex_then ?_) | (with_reducible refine ex_near ?_) | (refine ex_far (by decide) ?_))); (with_reducible refine ex_go ?_)) | go_values | go_skip | go_guarded | go_step | go_upon)
  go_ret
  exact ⟨rfl, rfl⟩
theorem tk_16 (W : World) : Calls Tryz.prog 60 #[.int .u8 16] W fun e W' => e = .returned (.int .i64 2) ∧ W = W' := by
  go_enter Tryz.func60, Tryz.ntmps60
  go_wp2_with fail
  repeat' (first | ((with_reducible refine wp_exit ?_); (repeat (first | (with_reducible refine ex_then ?_) | (with_reducible refine ex_near ?_) | (refine ex_far (by decide) ?_))); (with_reducible refine ex_go ?_)) | go_values | go_skip | go_guarded | go_step | go_upon)
  go_ret
  exact ⟨rfl, rfl⟩
theorem tk_17 (W : World) : Calls Tryz.prog 60 #[.int .u8 17] W fun e W' => e = .returned (.int .i64 2) ∧ W = W' := by
  go_enter Tryz.func60, Tryz.ntmps60
  go_wp2_with fail
  repeat' (first | ((with_reducible refine wp_exit ?_); (repeat (first | (with_reducible refine ex_then ?_) | (with_reducible refine ex_near ?_) | (refine ex_far (by decide) ?_))); (with_reducible refine ex_go ?_)) | go_values | go_skip | go_guarded | go_step | go_upon)
  go_ret
  exact ⟨rfl, rfl⟩
theorem tk_18 (W : World) : Calls Tryz.prog 60 #[.int .u8 18] W fun e W' => e = .returned (.int .i64 2) ∧ W = W' := by
  go_enter Tryz.func60, Tryz.ntmps60
  go_wp2_with fail
  repeat' (first | ((with_reducible refine wp_exit ?_); (repeat (first | (with_reducible refine ex_then ?_) | (with_reducible refine ex_near ?_) | (refine ex_far (by decide) ?_))); (with_reducible refine ex_go ?_)) | go_values | go_skip | go_guarded | go_step | go_upon)
  go_ret
  exact ⟨rfl, rfl⟩
theorem tk_19 (W : World) : Calls Tryz.prog 60 #[.int .u8 19] W fun e W' => e = .returned (.int .i64 2) ∧ W = W' := by
  go_enter Tryz.func60, Tryz.ntmps60
  go_wp2_with fail
  repeat' (first | ((with_reducible refine wp_exit ?_); (repeat (first | (with_reducible refine ex_then ?_) | (with_reducible refine ex_near ?_) | (refine ex_far (by decide) ?_))); (with_reducible refine ex_go ?_)) | go_values | go_skip | go_guarded | go_step | go_upon)
  go_ret
  exact ⟨rfl, rfl⟩
theorem tk_20 (W : World) : Calls Tryz.prog 60 #[.int .u8 20] W fun e W' => e = .returned (.int .i64 2) ∧ W = W' := by
  go_enter Tryz.func60, Tryz.ntmps60
  go_wp2_with fail
  repeat' (first | ((with_reducible refine wp_exit ?_); (repeat (first | (with_reducible refine ex_then ?_) | (with_reducible refine ex_near ?_) | (refine ex_far (by decide) ?_))); (with_reducible refine ex_go ?_)) | go_values | go_skip | go_guarded | go_step | go_upon)
  go_ret
  exact ⟨rfl, rfl⟩
theorem tk_21 (W : World) : Calls Tryz.prog 60 #[.int .u8 21] W fun e W' => e = .returned (.int .i64 2) ∧ W = W' := by
  go_enter Tryz.func60, Tryz.ntmps60
  go_wp2_with fail
  repeat' (first | ((with_reducible refine wp_exit ?_); (repeat (first | (with_reducible refine ex_then ?_) | (with_reducible refine ex_near ?_) | (refine ex_far (by decide) ?_))); (with_reducible refine ex_go ?_)) | go_values | go_skip | go_guarded | go_step | go_upon)
  go_ret
  exact ⟨rfl, rfl⟩
theorem tk_22 (W : World) : Calls Tryz.prog 60 #[.int .u8 22] W fun e W' => e = .returned (.int .i64 1) ∧ W = W' := by
  go_enter Tryz.func60, Tryz.ntmps60
  go_wp2_with fail
  repeat' (first | ((with_reducible refine wp_exit ?_); (repeat (first | (with_reducible refine ex_then ?_) | (with_reducible refine ex_near ?_) | (refine ex_far (by decide) ?_))); (with_reducible refine ex_go ?_)) | go_values | go_skip | go_guarded | go_step | go_upon)
  go_ret
  exact ⟨rfl, rfl⟩
theorem tk_23 (W : World) : Calls Tryz.prog 60 #[.int .u8 23] W fun e W' => e = .returned (.int .i64 1) ∧ W = W' := by
  go_enter Tryz.func60, Tryz.ntmps60
  go_wp2_with fail
  repeat' (first | ((with_reducible refine wp_exit ?_); (repeat (first | (with_reducible refine ex_then ?_) | (with_reducible refine ex_near ?_) | (refine ex_far (by decide) ?_))); (with_reducible refine ex_go ?_)) | go_values | go_skip | go_guarded | go_step | go_upon)
  go_ret
  exact ⟨rfl, rfl⟩
theorem tk_24 (W : World) : Calls Tryz.prog 60 #[.int .u8 24] W fun e W' => e = .returned (.int .i64 1) ∧ W = W' := by
  go_enter Tryz.func60, Tryz.ntmps60
  go_wp2_with fail
  repeat' (first | ((with_reducible refine wp_exit ?_); (repeat (first | (with_reducible refine ex_then ?_) | (with_reducible refine ex_near ?_) | (refine ex_far (by decide) ?_))); (with_reducible refine ex_go ?_)) | go_values | go_skip | go_guarded | go_step | go_upon)
  go_ret
  exact ⟨rfl, rfl⟩
theorem tk_25 (W : World) : Calls Tryz.prog 60 #[.int .u8 25] W fun e W' => e = .returned (.int .i64 3) ∧ W = W' := by
  go_enter Tryz.func60, Tryz.ntmps60
  go_wp2_with fail
  repeat' (first | ((with_reducible refine wp_exit ?_); (repeat (first | (with_reducible refine ex_then ?_) | (with_reducible refine ex_near ?_) | (refine ex_far (by decide) ?_))); (with_reducible refine ex_go ?_)) | go_values | go_skip | go_guarded | go_step | go_upon)
  go_ret
  exact ⟨rfl, rfl⟩
theorem tk_any {o : Nat} (h : 1 ≤ o ∧ o ≤ 25) (W : World) : Calls Tryz.prog 60 #[.int .u8 ((o : Nat) : Int)] W fun e W' => e = .returned (.int .i64 ((kc o : Nat) : Int)) ∧ W = W' := by
  have hh : o = 1 ∨ o = 2 ∨ o = 3 ∨ o = 4 ∨ o = 5 ∨ o = 6 ∨ o = 7 ∨ o = 8 ∨ o = 9 ∨ o = 10 ∨ o = 11 ∨ o = 12 ∨ o = 13 ∨ o = 14 ∨ o = 15 ∨ o = 16 ∨ o = 17 ∨ o = 18 ∨ o = 19 ∨ o = 20 ∨ o = 21 ∨ o = 22 ∨ o = 23 ∨ o = 24 ∨ o = 25 := by omega
  rcases hh with rfl | rfl | rfl | rfl | rfl | rfl | rfl | rfl | rfl | rfl | rfl | rfl | rfl | rfl | rfl | rfl | rfl | rfl | rfl | rfl | rfl | rfl | rfl | rfl | rfl
  · exact tk_1 W
  · exact tk_2 W
  · exact tk_3 W
  · exact tk_4 W
  · exact tk_5 W
  · exact tk_6 W
  · exact tk_7 W
  · exact tk_8 W
  · exact tk_9 W
  · exact tk_10 W
  · exact tk_11 W
  · exact tk_12 W
  · exact tk_13 W
  · exact tk_14 W
  · exact tk_15 W
  · exact tk_16 W
  · exact tk_17 W
  · exact tk_18 W
  · exact tk_19 W
  · exact tk_20 W
  · exact tk_21 W
  · exact tk_22 W
  · exact tk_23 W
  · exact tk_24 W
  · exact tk_25 W

/-! ### what is read of package-level variables -/
structure EnvAt (F : Nat → Prop) (w : World) : Prop where
  nm : ∀ (o : Nat) (s : By), nameL[o]? = some s → w.cell? ⟨0, o, none⟩ = some (.string ⟨s.toArray⟩)
  pw : Lib.TabIs Tryz.prog w "internal/strconv.uint64pow10" .u64 Lib.pow10Tab
  es : ∃ t p, w.cell? ⟨4, 0, none⟩ = some (.iface t p)
  er : ∃ t p, w.cell? ⟨5, 0, none⟩ = some (.iface t p)
  lp : 1 < w.heap.size
  fnm : ¬ F 0
  fpw : ¬ F 1
  fes : ¬ F 4
  fer : ¬ F 5

theorem gpow : Tryz.prog.globalNamed "internal/strconv.uint64pow10" = some 1 := by kernel_rfl
theorem EnvAt.kept {F : Nat → Prop} {w w' : World} (h : EnvAt F w) (k : Kept F w w') : EnvAt F w' := by
  refine ⟨fun o s e => ?_, ?_, ?_, ?_, Nat.lt_of_lt_of_le h.lp k.size, h.fnm, h.fpw, h.fes, h.fer⟩
  · have := h.nm o s e
    exact (k.cell (x := ⟨0, o, none⟩) (World.block_lt_of_cell? w _ this) h.fnm).trans this
  · have hp := h.pw
    unfold Lib.TabIs World.var? at *
    rw [gpow, Option.bind_some] at *
    rw [k.block _ h.lp h.fpw]
    exact hp
  · obtain ⟨t, p, e⟩ := h.es
    exact ⟨t, p, (k.cell (x := ⟨4, 0, none⟩) (World.block_lt_of_cell? w _ e) h.fes).trans e⟩
  · obtain ⟨t, p, e⟩ := h.er
    exact ⟨t, p, (k.cell (x := ⟨5, 0, none⟩) (World.block_lt_of_cell? w _ e) h.fer).trans e⟩
theorem EnvAt.call {F : Nat → Prop} {w w' : World} (h : EnvAt F w) (k : Below w.heap.size w w') : EnvAt F w' := h.kept (Kept.ofBelow k F)
theorem EnvAt.alloc {F : Nat → Prop} {w : World} (h : EnvAt F w) (o : Obj) : EnvAt F (w.alloc o) := h.kept ((Kept.refl F w).alloc o)
theorem EnvAt.mono {F G : Nat → Prop} {w : World} (h : EnvAt F w) (hG : ∀ i, G i → F i) : EnvAt G w :=
  ⟨h.nm, h.pw, h.es, h.er, h.lp, fun c => h.fnm (hG _ c), fun c => h.fpw (hG _ c), fun c => h.fes (hG _ c), fun c => h.fer (hG _ c)⟩

/-! ### names -/
theorem name_in {F : Nat → Prop} {w : World} (E : EnvAt F w) {o : Nat} (ho : o < 26) :
    Calls Tryz.prog 59 #[.int .u8 ((o : Nat) : Int)] w fun e w' => e = .returned (.string ⟨(nm o).toArray⟩) ∧ w = w' := by
  have hs : nameL[o]? = some (nm o) := by
    unfold nm
    rw [List.getD_eq_getElem?_getD, List.getElem?_eq_getElem (show o < nameL.length from ho)]
    rfl
  have hc := E.nm o _ hs
  have cw : IntKind.i64.wrap ((o : Nat) : Int) = ((o : Nat) : Int) := by rw [IntKind.wrap_i64]; omega
  have q : ¬ (26 : Int) ≤ ((o : Nat) : Int) := by omega
  have q1 : ((o : Nat) : Int) < 26 := by omega
  have q0 : (0 : Int) ≤ ((o : Nat) : Int) := by omega
  clear E ho hs
  generalize nm o = s at hc ⊢
  go_enter Tryz.func59, Tryz.ntmps59
  go_wp2_with fail
  go_ret
  exact ⟨rfl, rfl⟩
theorem name_out {w : World} {o : Nat} (ho : 26 ≤ o) (h8 : o ≤ 255) :
    Calls Tryz.prog 59 #[.int .u8 ((o : Nat) : Int)] w fun e w' => e = .returned (.string ⟨(nm o).toArray⟩) ∧ w = w' := by
  have hs : nm o = [] := by
    unfold nm
    rw [List.getD_eq_getElem?_getD, List.getElem?_eq_none (show nameL.length ≤ o from ho)]
    rfl
  rw [hs]
  have cw : IntKind.i64.wrap ((o : Nat) : Int) = ((o : Nat) : Int) := by rw [IntKind.wrap_i64]; omega
  have q : (26 : Int) ≤ ((o : Nat) : Int) := by omega
  go_enter Tryz.func59, Tryz.ntmps59
  go_wp2_with fail
  go_ret
  exact ⟨rfl, rfl⟩
theorem name_any {F : Nat → Prop} {w : World} (E : EnvAt F w) {o : Nat} (h8 : o ≤ 255) :
    Calls Tryz.prog 59 #[.int .u8 ((o : Nat) : Int)] w fun e w' => e = .returned (.string ⟨(nm o).toArray⟩) ∧ w = w' := by
  by_cases h : o < 26
  · exact name_in E h
  · exact name_out (by omega) h8
end Tx
end Go.Proofs.YtkiegiofholofaaGreatDoor

namespace Go.Proofs.YtkiegiofholofaaGreatDoor
open Go.RowKit Go.Maps Bv Tm
namespace Tx
set_option maxHeartbeats 1600000
set_option maxRecDepth 100000

/-- The block r of w is a reader that has the text s still to read, and has read the nodes ns; F: the blocks that may change. -/
structure RdAt (F : Nat → Prop) (r : Nat) (tx : ByteArray) (v : Value) (s : By) (ns : List Nd) (w : World) : Prop where
  c0 : w.cell? ⟨r, 0, none⟩ = some (.string tx)
  tx : tx.data.toList = s
  c1 : w.cell? ⟨r, 1, none⟩ = some v
  fr : ∀ o, w.frozen? ⟨r, o, none⟩ = false
  row : w.ownsRow 0 36 7 v ns.length (rowOf ns)
  gp : v.ownBlock ≠ some r
  fb : F r
  fo : ∀ g, v.ownBlock = some g → F g
  fn : ∀ i, w.heap.size ≤ i → F i
def RdE (F : Nat → Prop) (r : Nat) (s : By) (ns : List Nd) (w : World) : Prop := ∃ tx v, RdAt F r tx v s ns w

theorem RdAt.lt {F : Nat → Prop} {r : Nat} {tx : ByteArray} {v : Value} {s : By} {ns : List Nd} {w : World} (h : RdAt F r tx v s ns w) : r < w.heap.size := World.block_lt_of_cell? w _ h.c0
/-- Another text is laid. -/
theorem RdAt.put {F : Nat → Prop} {r : Nat} {tx : ByteArray} {v : Value} {s : By} {ns : List Nd} {w : World} (h : RdAt F r tx v s ns w) (tx' : ByteArray) : RdAt F r tx' v tx'.data.toList ns (w.setCell ⟨r, 0, none⟩ (.string tx')) ∧ Kept F w (w.setCell ⟨r, 0, none⟩ (.string tx')) := by
  refine ⟨⟨World.cell?_setCell_same _ _ _ h.c0, rfl, ?_, fun o => ?_, row_setCell h.row (a := ⟨r, 0, none⟩) _ h.gp, h.gp, h.fb, h.fo, fun i hi => h.fn i (by simpa using hi)⟩, (Kept.refl F w).setCell _ _ (fun _ => h.fb)⟩
  · rw [World.cell?_setCell_other _ _ _ _ (by simp)]; exact h.c1
  · rw [World.frozen?_setCell]; exact h.fr o
theorem RdAt.keep {F G : Nat → Prop} {r : Nat} {tx : ByteArray} {v : Value} {s : By} {ns : List Nd} {w w' : World} (h : RdAt F r tx v s ns w) (k : Kept G w w') (hG : ∀ i, i < w.heap.size → G i → i ≠ r ∧ v.ownBlock ≠ some i) : RdAt F r tx v s ns w' := by
  have lb := h.lt
  have nb : ¬ G r := fun c => (hG r lb c).1 rfl
  refine ⟨(k.cell (x := ⟨r, 0, none⟩) lb nb).trans h.c0, h.tx, (k.cell (x := ⟨r, 1, none⟩) lb nb).trans h.c1, fun o => (k.frozen (x := ⟨r, o, none⟩) lb nb).trans (h.fr o), ?_, h.gp, h.fb, h.fo, fun i hi => h.fn i (Nat.le_trans k.size hi)⟩
  exact row_kept h.row k (fun g e c => (hG g (own_lt h.row e) c).2 e)
theorem RdE.call {F : Nat → Prop} {r : Nat} {s : By} {ns : List Nd} {w w' : World} (h : RdE F r s ns w) (k : Below w.heap.size w w') : RdE F r s ns w' := by
  obtain ⟨tx, v, h⟩ := h
  exact ⟨tx, v, h.keep (Kept.ofBelow k (fun _ => False)) (fun _ _ c => c.elim)⟩
theorem RdE.mono {F G : Nat → Prop} {r : Nat} {s : By} {ns : List Nd} {w : World} (h : RdE F r s ns w) (hG : ∀ i, F i → G i) : RdE G r s ns w := by
  obtain ⟨tx, v, h⟩ := h
  exact ⟨tx, v, h.c0, h.tx, h.c1, h.fr, h.row, h.gp, hG _ h.fb, fun g e => hG _ (h.fo g e), fun i hi => hG _ (h.fn i hi)⟩
theorem RdE.apart {F : Nat → Prop} {r : Nat} {s : By} {ns : List Nd} {w w3 : World} (h : RdE F r s ns w) (hb : Below w.heap.size w w3) {pb : Nat} (h1 : w.heap.size ≤ pb) (h2 : pb < w3.heap.size) : RdE (fun i => F i ∧ i ≠ pb) r s ns w3 := by
  obtain ⟨tx, v, h⟩ := h
  have k := h.keep (Kept.ofBelow hb (fun _ => False)) (fun _ _ c => c.elim)
  have lb := h.lt
  refine ⟨tx, v, k.c0, k.tx, k.c1, k.fr, k.row, k.gp, ⟨h.fb, by omega⟩, fun g e => ⟨h.fo g e, ?_⟩, fun i hi => ⟨h.fn i (Nat.le_trans hb.size hi), by omega⟩⟩
  have := own_lt h.row e
  omega

/-- What is left behind the byte c, if it comes next. -/
def aft (c : UInt8) (s : By) : By := match s with | [] => [] | d :: r => if d = c then r else d :: r
def has1 (c : UInt8) (s : By) : Bool := match s with | [] => false | d :: _ => decide (d = c)
theorem trim_one (c : UInt8) (s : By) : Lib.trimPrefix s [c] = aft c s := by
  unfold Lib.trimPrefix Lib.hasPrefix aft
  cases s with
  | nil => simp
  | cons d r =>
    by_cases h : d = c
    · subst h; simp
    · have h' : ¬ c = d := fun e => h e.symm
      simp [h, h']
theorem has_one (c : UInt8) (s : By) : Lib.hasPrefix s [c] = has1 c s := by
  unfold Lib.hasPrefix has1
  cases s with
  | nil => simp
  | cons d r =>
    by_cases h : d = c
    · subst h; simp
    · have h' : ¬ c = d := fun e => h e.symm
      simp [h, h', List.isPrefixOf]
theorem need_yes {c : UInt8} {s : By} (h : has1 c s = true) : need c s = some (aft c s) := by
  unfold has1 at h
  unfold need aft
  cases s with
  | nil => simp at h
  | cons d r => simp at h; simp [h]
theorem need_not {c : UInt8} {s : By} (h : has1 c s = false) : need c s = none := by
  unfold has1 at h
  unfold need
  cases s with
  | nil => rfl
  | cons d r => simp at h; simp [h]

theorem rhas_any {F : Nat → Prop} {r : Nat} {s : By} {ns : List Nd} {w : World} (h : RdE F r s ns w) (c : UInt8) :
    Calls Tryz.prog 127 #[.pointer (some ⟨r, 0, none⟩), .string ⟨#[c]⟩] w fun e w' => e = .returned (.bool (has1 c s)) ∧ RdE F r (aft c s) ns w' ∧ Kept F w w' := by
  obtain ⟨tx, v, h⟩ := h
  have c0 := h.c0
  have f0 := h.fr 0
  have H := Lib.hid h
  have hcp := cutPrefix_any tx ⟨#[c]⟩ w
  have htx := h.tx
  rw [show (⟨#[c]⟩ : ByteArray).data.toList = [c] from rfl, htx, trim_one, has_one] at hcp
  have HCP := Lib.hid hcp
  clear h htx hcp
  go_enter Tryz.func127, Tryz.ntmps127
  go_wp2_with (go_at_call 156; refine HCP.out.mono ?_; rintro e w' ⟨rfl, hw'⟩; subst hw')
  go_ret
  have hp := H.out.put ⟨(aft c s).toArray⟩
  exact ⟨rfl, ⟨_, v, hp.1⟩, hp.2⟩

theorem rneed_yes {F : Nat → Prop} {r : Nat} {s s' : By} {ns : List Nd} {w : World} {c : UInt8} (h : RdE F r s ns w) (hn : need c s = some s') :
    Calls Tryz.prog 129 #[.pointer (some ⟨r, 0, none⟩), .string ⟨#[c]⟩] w fun e w' => e = .returned (.tuple #[]) ∧ RdE F r s' ns w' ∧ Kept F w w' := by
  have hh : has1 c s = true := by
    cases e : has1 c s with
    | true => rfl
    | false => rw [need_not e] at hn; cases hn
  have he : aft c s = s' := by rw [need_yes hh] at hn; exact Option.some.inj hn
  have H := rhas_any h c
  rw [hh, he] at H
  have H := Lib.hid H
  clear h hn hh he
  go_enter Tryz.func129, Tryz.ntmps129
  go_wp2_with (go_at_call 127; refine H.out.mono ?_; rintro e w' ⟨rfl, h1, k1⟩; have H1 := Lib.hid h1; have K1 := Lib.hid k1; clear h1 k1)
  exact ⟨rfl, .tuple #[], by simp [results, Tryz.results129, go_sem], rfl, H1.out, K1.out⟩
theorem rneed_no {F : Nat → Prop} {r : Nat} {s : By} {ns : List Nd} {w : World} {c : UInt8} (h : RdE F r s ns w) (hn : need c s = none) :
    Calls Tryz.prog 129 #[.pointer (some ⟨r, 0, none⟩), .string ⟨#[c]⟩] w fun e w' => e = boom 5 ∧ Kept F w w' := by
  have hh : has1 c s = false := by
    cases e : has1 c s with
    | false => rfl
    | true => rw [need_yes e] at hn; cases hn
  have H := rhas_any h c
  rw [hh] at H
  have H := Lib.hid H
  clear h hn hh
  go_enter Tryz.func129, Tryz.ntmps129
  go_wp2_with (go_at_call 127; refine H.out.mono ?_; rintro e w' ⟨rfl, h1, k1⟩; have H1 := Lib.hid h1; have K1 := Lib.hid k1; clear h1 k1)
  exact ⟨rfl, rfl, K1.out⟩
end Tx
end Go.Proofs.YtkiegiofholofaaGreatDoor

namespace Go.Proofs.YtkiegiofholofaaGreatDoor
open Go.RowKit Go.Maps Bv Tm
namespace Tx
set_option maxHeartbeats 1600000
set_option maxRecDepth 100000

theorem tw_lt {p : UInt8 → Bool} : ∀ {s : By} {k : Nat}, k < (s.takeWhile p).length → ∃ c, s[k]? = some c ∧ p c = true
  | [], k, h => by simp at h
  | c :: r, k, h => by
    by_cases hc : p c = true
    · rw [List.takeWhile_cons_of_pos hc] at h
      cases k with
      | zero => exact ⟨c, rfl, hc⟩
      | succ k => simpa using tw_lt (s := r) (k := k) (by simpa using h)
    · rw [List.takeWhile_cons_of_neg hc] at h; simp at h
theorem tw_at {p : UInt8 → Bool} : ∀ {s : By}, (s.takeWhile p).length = s.length ∨ ∃ c, s[(s.takeWhile p).length]? = some c ∧ p c = false
  | [] => .inl rfl
  | c :: r => by
    by_cases hc : p c = true
    · rw [List.takeWhile_cons_of_pos hc]
      rcases tw_at (p := p) (s := r) with h | ⟨d, h1, h2⟩
      · left; simpa using h
      · right; exact ⟨d, by simpa using h1, h2⟩
    · rw [List.takeWhile_cons_of_neg hc]
      right; exact ⟨c, rfl, by simpa using hc⟩
theorem tw_take {p : UInt8 → Bool} (s : By) : s.take (s.takeWhile p).length = s.takeWhile p := by
  have e := List.take_left (l₁ := s.takeWhile p) (l₂ := s.dropWhile p)
  rw [List.takeWhile_append_dropWhile] at e
  exact e
theorem tw_drop {p : UInt8 → Bool} (s : By) : s.drop (s.takeWhile p).length = s.dropWhile p := by
  have e := List.drop_left (l₁ := s.takeWhile p) (l₂ := s.dropWhile p)
  rw [List.takeWhile_append_dropWhile] at e
  exact e
theorem tw_le {p : UInt8 → Bool} (s : By) : (s.takeWhile p).length ≤ s.length := by
  have h := congrArg List.length (List.takeWhile_append_dropWhile (p := p) (l := s))
  rw [List.length_append] at h
  omega

theorem at_byte {tx : ByteArray} {k : Nat} {c : UInt8} (h : tx.data.toList[k]? = some c) : ∃ hk : k < tx.size, tx[k]'hk = c := by
  obtain ⟨hk, h2⟩ := List.getElem?_eq_some_iff.1 h
  have hk' : k < tx.size := by rw [size_len]; exact hk
  have h3 : tx.data[k]'hk' = c := by simpa using h2
  exact ⟨hk', h3⟩

theorem rrun_any {F : Nat → Prop} {r : Nat} {s : By} {ns : List Nd} {w : World} (a b : Int) (h : RdE F r s ns w) (hs : s.length ≤ 1000000) :
    Calls Tryz.prog 157 #[.pointer (some ⟨r, 0, none⟩), .int .u8 a, .int .u8 b] w fun e w' => e = .returned (.string ⟨(s.takeWhile (inR a b)).toArray⟩) ∧ RdE F r (s.dropWhile (inR a b)) ns w' ∧ Kept F w w' := by
  obtain ⟨tx, v, h⟩ := h
  have c0 := h.c0
  have f0 := h.fr 0
  have htx := h.tx
  have H := Lib.hid h
  obtain ⟨m, hm⟩ : ∃ m, m = (s.takeWhile (inR a b)).length := ⟨_, rfl⟩
  have hsz : tx.size = s.length := by rw [size_len, htx]
  have hml : m ≤ tx.size := by rw [hm, hsz]; exact tw_le s
  have HIN : Hid (∀ k, k < m → ∃ hk : k < tx.size, a ≤ ((tx[k]'hk).toNat : Int) ∧ ((tx[k]'hk).toNat : Int) ≤ b) := by
    show ∀ k, _ → _
    intro k hk
    rw [hm] at hk
    obtain ⟨c, hc, hp⟩ := tw_lt hk
    obtain ⟨hk2, e⟩ := at_byte (tx := tx) (by rw [htx]; exact hc)
    exact ⟨hk2, by rw [e]; simpa [inR] using hp⟩
  have HAT : Hid (m = tx.size ∨ ∃ hk : m < tx.size, ((tx[m]'hk).toNat : Int) < a ∨ (a ≤ ((tx[m]'hk).toNat : Int) ∧ b < ((tx[m]'hk).toNat : Int))) := by
    show _ ∨ _
    rcases tw_at (p := inR a b) (s := s) with h1 | ⟨c, hc, hp⟩
    · left; omega
    · right
      rw [← hm] at hc
      obtain ⟨hk2, e⟩ := at_byte (tx := tx) (by rw [htx]; exact hc)
      refine ⟨hk2, ?_⟩
      rw [e]
      simp only [inR, Bool.and_eq_false_iff, decide_eq_false_iff_not] at hp
      omega
  have HEND : Hid (∀ w' : World, w' = w.setCell ⟨r, 0, none⟩ (.string (tx.extract m tx.size)) → RdE F r (s.dropWhile (inR a b)) ns w' ∧ Kept F w w') := by
    show ∀ w', _ → _
    rintro w' rfl
    have hp := h.put (tx.extract m tx.size)
    have e : (tx.extract m tx.size).data.toList = s.dropWhile (inR a b) := by
      rw [← tw_drop, ← hm, ← htx, ByteArray.data_extract]
      simp only [Array.toList_extract, List.extract_eq_take_drop]
      exact List.take_of_length_le (by rw [List.length_drop, ← size_len]; exact Nat.le_refl _)
    rw [e] at hp
    exact ⟨⟨_, v, hp.1⟩, hp.2⟩
  have HVAL : Hid (Value.string (tx.extract 0 m) = .string ⟨(s.takeWhile (inR a b)).toArray⟩) := by
    show _ = _
    congr 1
    apply ByteArray.ext
    apply Array.ext'
    rw [ByteArray.data_extract, ← tw_take s, ← hm, ← htx]
    simp
  have HSZ := Lib.hid (show tx.size ≤ 1000000 by omega)
  have HM := Lib.hid hm
  have HML := Lib.hid hml
  clear h htx hm hsz hml hs
  go_enter Tryz.func157, Tryz.ntmps157
  go_wp2_with fail
  go_loopg [7] m (fun gk u7 wr => ∃ k : Nat, u7 = .int .i64 ((k : Nat) : Int) ∧ k + gk = m ∧ w = wr)
  case atStart => exact ⟨0, rfl, by omega, rfl⟩
  case round =>
    obtain ⟨k, rfl, hk, rfl⟩ := hrel
    by_cases hlt : k < m
    · obtain ⟨hk2, g1, g2⟩ := HIN.out k hlt
      have q1 : decide (((k : Nat) : Int) < ((tx.size : Nat) : Int)) = true := decide_eq_true (by omega)
      have q2 : decide (a ≤ ((tx[k]'hk2).toNat : Int)) = true := decide_eq_true g1
      have q3 : decide (((tx[k]'hk2).toNat : Int) ≤ b) = true := decide_eq_true g2
      have r1 : IntKind.i64.wrap (((k : Nat) : Int) + 1) = (((k + 1 : Nat) : Nat) : Int) := by have := HSZ.out; rw [IntKind.wrap_i64]; omega
      have r2 : wrap64 (((k : Nat) : Int) + 1) = (((k + 1 : Nat) : Nat) : Int) := by unfold wrap64; rw [← IntKind.wrap_i64]; exact r1
      have HR2 := Lib.hid r2
      have HK := Lib.hid (And.intro hk hlt)
      clear r1 r2 hk hlt g1 g2
      go_wp2_with fail
      go_roundg (gk - 1)
      case measure => have := HK.out; omega
      case rel => exact ⟨k + 1, by first | rfl | (rw [HR2.out]) | (congr 1; exact HR2.out), by have := HK.out; omega, rfl⟩
    · obtain rfl : k = m := by omega
      clear hlt hk
      have q0 : (0 : Int) ≤ ((k : Nat) : Int) := by omega
      rcases HAT.out with hz | ⟨hk2, h1 | ⟨h1, h2⟩⟩
      · have q1 : decide (((k : Nat) : Int) < ((tx.size : Nat) : Int)) = false := decide_eq_false (by omega)
        have q5 : decide (k < tx.size) = false := decide_eq_false (by omega)
        have q2 : ((k : Nat) : Int) ≤ ((tx.size : Nat) : Int) := by omega
        have HZ := Lib.hid hz
        clear hz
        go_wp2_with fail
        exact bodyPost_ret (v := .string ⟨(s.takeWhile (inR a b)).toArray⟩) (by rw [← HVAL.out]; simp [results, Tryz.results157, go_sem]) rfl ⟨rfl, HEND.out _ rfl⟩
      · have q1 : decide (((k : Nat) : Int) < ((tx.size : Nat) : Int)) = true := decide_eq_true (by omega)
        have q2 : ((k : Nat) : Int) ≤ ((tx.size : Nat) : Int) := by omega
        have q3 : decide (a ≤ ((tx[k]'hk2).toNat : Int)) = false := decide_eq_false (by omega)
        clear h1
        go_wp2_with fail
        exact bodyPost_ret (v := .string ⟨(s.takeWhile (inR a b)).toArray⟩) (by rw [← HVAL.out]; simp [results, Tryz.results157, go_sem]) rfl ⟨rfl, HEND.out _ rfl⟩
      · have q1 : decide (((k : Nat) : Int) < ((tx.size : Nat) : Int)) = true := decide_eq_true (by omega)
        have q2 : ((k : Nat) : Int) ≤ ((tx.size : Nat) : Int) := by omega
        have q3 : decide (a ≤ ((tx[k]'hk2).toNat : Int)) = true := decide_eq_true (by omega)
        have q4 : decide (((tx[k]'hk2).toNat : Int) ≤ b) = false := decide_eq_false (by omega)
        clear h1 h2
        go_wp2_with fail
        exact bodyPost_ret (v := .string ⟨(s.takeWhile (inR a b)).toArray⟩) (by rw [← HVAL.out]; simp [results, Tryz.results157, go_sem]) rfl ⟨rfl, HEND.out _ rfl⟩
end Tx
end Go.Proofs.YtkiegiofholofaaGreatDoor

namespace Go.Proofs.YtkiegiofholofaaGreatDoor
open Go.RowKit Go.Maps Bv Tm
namespace Tx
set_option maxHeartbeats 1600000
set_option maxRecDepth 100000

theorem num_cases {s : By} : (∃ n, Lib.parseUintB 64 (s.takeWhile (inR 48 57)) = .ok n ∧ (1 < (s.takeWhile (inR 48 57)).length ∧ (s.takeWhile (inR 48 57)).getD 0 0 = 48) ∧ num s = none) ∨
    (∃ n, Lib.parseUintB 64 (s.takeWhile (inR 48 57)) = .ok n ∧ ¬ (1 < (s.takeWhile (inR 48 57)).length ∧ (s.takeWhile (inR 48 57)).getD 0 0 = 48) ∧ num s = some (n, s.dropWhile (inR 48 57))) ∨
    (NoNum (Lib.parseUintB 64 (s.takeWhile (inR 48 57))) ∧ num s = none) ∨ (Lib.parseUintB 64 (s.takeWhile (inR 48 57)) = .range ∧ num s = none) := by
  unfold num
  cases h : Lib.parseUintB 64 (s.takeWhile (inR 48 57)) with
  | ok n =>
    by_cases hz : 1 < (s.takeWhile (inR 48 57)).length ∧ (s.takeWhile (inR 48 57)).getD 0 0 = 48
    · exact .inl ⟨n, rfl, hz, by simp only [h]; rw [if_pos hz]⟩
    · exact .inr (.inl ⟨n, rfl, hz, by simp only [h]; rw [if_neg hz]⟩)
  | range => exact .inr (.inr (.inr ⟨rfl, by simp only [h]⟩))
  | _ => exact .inr (.inr (.inl ⟨⟨fun u c => (by cases c), fun c => (by cases c)⟩, by simp only [h]⟩))

/-- What a call that reads has done: of what was read, and of what is none. -/
def Reads {α : Type} (F : Nat → Prop) (r : Nat) (w : World) (x : Option α) (val : α → Value) (sp : α → By) (nsp : α → List Nd) (e : Ending) (w' : World) : Prop :=
  match x with
  | some a => e = .returned (val a) ∧ RdE F r (sp a) (nsp a) w' ∧ Kept F w w'
  | none => e = boom 5 ∧ Kept F w w'

theorem rnum_any {F : Nat → Prop} {r : Nat} {s : By} {ns : List Nd} {w : World} (h : RdE F r s ns w) (hE : EnvAt F w) (hs : s.length ≤ 1000000) :
    Calls Tryz.prog 130 #[.pointer (some ⟨r, 0, none⟩)] w (Reads F r w (num s) (fun p => .int .u64 ((p.1 : Nat) : Int)) (fun p => p.2) (fun _ => ns)) := by
  have HR := Lib.hid (rrun_any 48 57 h hs)
  have HE := Lib.hid hE
  obtain ⟨dv, hdv⟩ : ∃ dv : ByteArray, dv = ⟨(s.takeWhile (inR 48 57)).toArray⟩ := ⟨_, rfl⟩
  have hdl : dv.data.toList = s.takeWhile (inR 48 57) := by rw [hdv]
  have hds : dv.size = (s.takeWhile (inR 48 57)).length := by rw [size_len, hdl]
  have hdz : dv.size ≤ 1000000 := by rw [hds]; exact Nat.le_trans (tw_le s) hs
  rw [← hdv] at HR
  clear h hE hs
  rcases num_cases (s := s) with ⟨n, hp, ⟨hz1, hz2⟩, hn⟩ | ⟨n, hp, hz, hn⟩ | ⟨hp, hn⟩ | ⟨hp, hn⟩
  · have hb : ∃ hk : 0 < dv.size, dv[0]'hk = 48 := by
      refine at_byte ?_
      rw [hdl]
      cases ht : s.takeWhile (inR 48 57) with
      | nil => rw [ht] at hz1; simp at hz1
      | cons c q => rw [ht] at hz2; simpa using hz2
    obtain ⟨hk, hb⟩ := hb
    have HP := Lib.hid (fun w => parse_ok dv (by omega) n (by rw [hdl]; exact hp) w)
    have q1 : (1 : Int) < ((dv.size : Nat) : Int) := by omega
    have q3 : 1 < dv.size := by omega
    have q2 : dv[0]'hk = 48 := hb
    rw [hn]
    clear hn hp hz1 hz2 hdv hdl hds hdz
    go_enter Tryz.func130, Tryz.ntmps130
    go_wp2_with (first
      | (go_at_call 157; refine HR.out.mono ?_; rintro e w1 ⟨rfl, h1, k1⟩; have H1 := Lib.hid h1; have K1 := Lib.hid k1; clear h1 k1)
      | (go_at_call 158; refine (HP.out _).mono ?_; rintro e w2 ⟨rfl, hb2⟩; have HB2 := Lib.hid hb2; clear hb2))
    exact ⟨rfl, rfl, K1.out.call HB2.out⟩
  · have HP := Lib.hid (fun w => parse_ok dv (by omega) n (by rw [hdl]; exact hp) w)
    rw [hn]
    have hor : ¬ 1 < dv.size ∨ (1 < dv.size ∧ ∃ hk : 0 < dv.size, ¬ dv[0]'hk = 48) := by
      by_cases h1 : 1 < dv.size
      · right
        refine ⟨h1, by omega, fun c => hz ⟨by omega, ?_⟩⟩
        have h0 : 0 < dv.size := by omega
        have e : dv.data[0]'h0 = 48 := c
        rw [← hdl, List.getD_eq_getElem?_getD, Array.getElem?_toList, Array.getElem?_eq_getElem h0, e]
        rfl
      · exact .inl h1
    clear hn hp hz hdv hdl hds
    rcases hor with h1 | ⟨h1, hk, hb⟩
    · have q1 : ¬ (1 : Int) < ((dv.size : Nat) : Int) := by omega
      clear hdz
      go_enter Tryz.func130, Tryz.ntmps130
      go_wp2_with (first
        | (go_at_call 157; refine HR.out.mono ?_; rintro e w1 ⟨rfl, h1, k1⟩; have H1 := Lib.hid h1; have K1 := Lib.hid k1; clear h1 k1)
        | (go_at_call 158; refine (HP.out _).mono ?_; rintro e w2 ⟨rfl, hb2⟩; have HB2 := Lib.hid hb2; clear hb2))
      go_ret
      exact ⟨rfl, H1.out.call HB2.out, K1.out.call HB2.out⟩
    · have q1 : (1 : Int) < ((dv.size : Nat) : Int) := by omega
      have q2 : ((((dv[0]'hk).toNat : Nat) : Int) == 48) = false := by
        simp only [beq_eq_false_iff_ne, ne_eq]
        intro c
        exact hb (UInt8.toNat_inj.1 (by show _ = 48; omega))
      clear hdz
      go_enter Tryz.func130, Tryz.ntmps130
      go_wp2_with (first
        | (go_at_call 157; refine HR.out.mono ?_; rintro e w1 ⟨rfl, h1, k1⟩; have H1 := Lib.hid h1; have K1 := Lib.hid k1; clear h1 k1)
        | (go_at_call 158; refine (HP.out _).mono ?_; rintro e w2 ⟨rfl, hb2⟩; have HB2 := Lib.hid hb2; clear hb2))
      go_ret
      exact ⟨rfl, H1.out.call HB2.out, K1.out.call HB2.out⟩
  · rw [hn]
    obtain ⟨t, p, hes⟩ := HE.out.es
    have HP : Hid (∀ w1, Kept F w w1 → Calls Tryz.prog 158 #[.string dv, .int .i64 10, .int .i64 64] w1 fun e w' => ∃ N, e = .returned (.tuple #[.int .u64 0, .iface 223 (.pointer (some ⟨N, 0, none⟩))]) ∧ Below w1.heap.size w1 w') := fun w1 k1 => by
      obtain ⟨t, p, hes⟩ := (HE.out.kept k1).es
      exact parse_syntax dv (by omega) (by rw [hdl]; exact hp) t p w1 hes
    clear hn hp hdv hdl hds hdz hes
    go_enter Tryz.func130, Tryz.ntmps130
    go_wp2_with (first
      | (go_at_call 157; refine HR.out.mono ?_; rintro e w1 ⟨rfl, h1, k1⟩; have H1 := Lib.hid h1; have K1 := Lib.hid k1; clear h1 k1)
      | (go_at_call 158; refine (HP.out _ K1.out).mono ?_; rintro e w2 ⟨N, rfl, hb2⟩; have HB2 := Lib.hid hb2; clear hb2))
    exact ⟨rfl, rfl, K1.out.call HB2.out⟩
  · rw [hn]
    have HP : Hid (∀ w1, Kept F w w1 → Calls Tryz.prog 158 #[.string dv, .int .i64 10, .int .i64 64] w1 fun e w' => ∃ N, e = .returned (.tuple #[.int .u64 18446744073709551615, .iface 223 (.pointer (some ⟨N, 0, none⟩))]) ∧ Below w1.heap.size w1 w') := fun w1 k1 => by
      obtain ⟨t, p, hes⟩ := (HE.out.kept k1).er
      exact parse_range dv (by omega) (by rw [hdl]; exact hp) t p w1 hes
    clear hn hp hdv hdl hds hdz
    go_enter Tryz.func130, Tryz.ntmps130
    go_wp2_with (first
      | (go_at_call 157; refine HR.out.mono ?_; rintro e w1 ⟨rfl, h1, k1⟩; have H1 := Lib.hid h1; have K1 := Lib.hid k1; clear h1 k1)
      | (go_at_call 158; refine (HP.out _ K1.out).mono ?_; rintro e w2 ⟨N, rfl, hb2⟩; have HB2 := Lib.hid hb2; clear hb2))
    exact ⟨rfl, rfl, K1.out.call HB2.out⟩

theorem num_lt {s s' : By} {n : Nat} (h : num s = some (n, s')) : n < 18446744073709551616 := by
  rcases num_cases (s := s) with ⟨m, _, _, hn⟩ | ⟨m, hp, _, hn⟩ | ⟨_, hn⟩ | ⟨_, hn⟩
  · rw [hn] at h; cases h
  · rw [hn] at h
    have := Lib.parseUintB_le hp
    simp only [Option.some.injEq, Prod.mk.injEq] at h
    omega
  · rw [hn] at h; cases h
  · rw [hn] at h; cases h

theorem rsho_any {F : Nat → Prop} {r : Nat} {s : By} {ns : List Nd} {w : World} (h : RdE F r s ns w) (hE : EnvAt F w) (hs : s.length ≤ 1000000) :
    Calls Tryz.prog 128 #[.pointer (some ⟨r, 0, none⟩)] w (Reads F r w (sho s) (fun p => .int .u8 ((p.1 : Nat) : Int)) (fun p => p.2) (fun _ => ns)) := by
  have HN := rnum_any h hE hs
  unfold sho
  cases hn : num s with
  | none =>
    rw [hn] at HN
    have HN := Lib.hid HN
    clear h hE hs hn
    go_enter Tryz.func128, Tryz.ntmps128
    go_wp2_with (go_at_call 130; refine HN.out.mono ?_; rintro e w1 ⟨rfl, k1⟩; have K1 := Lib.hid k1; clear k1)
    exact ⟨rfl, rfl, K1.out⟩
  | some q =>
    obtain ⟨n, s'⟩ := q
    have hlt := num_lt hn
    rw [hn] at HN
    have HN := Lib.hid HN
    clear h hE hs hn
    go_enter Tryz.func128, Tryz.ntmps128
    go_wp2_with (go_at_call 130; refine HN.out.mono ?_; rintro e w1 ⟨rfl, h1, k1⟩; have H1 := Lib.hid h1; have K1 := Lib.hid k1; clear h1 k1)
    exact bodyPost_ret (v := .int .u8 (((min n 255 : Nat) : Nat) : Int)) (by rw [show (((min n 255 : Nat) : Nat) : Int) = min ((n : Nat) : Int) 255 by omega]; simp [results, Tryz.results128, go_sem]) rfl ⟨rfl, H1.out, K1.out⟩
end Tx
end Go.Proofs.YtkiegiofholofaaGreatDoor
