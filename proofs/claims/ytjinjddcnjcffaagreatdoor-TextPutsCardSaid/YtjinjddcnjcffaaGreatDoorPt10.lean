/-
What layer text reads of package-level variables; an operator's name, of a number and the number of a name; how many kids an operator has: facts on one call.
The document's own name of an operator, as a fact on one call.
How many kids an operator has, as the document's answer tells it: a fact on one call.
-/
import Derived.Test.YtjinjddcnjcffaaGreatDoorPt09
import Derived.Deep.LoopGhost
import Derived.Test.YtjinjddcnjcffaaGreatDoorPt01
import Derived.Test.YtjinjddcnjcffaaGreatDoorPt03
namespace Go.Proofs.YtjinjddcnjcffaaGreatDoor
open Go.RowKit Go.Maps Bv Tm
namespace Tx
set_option maxHeartbeats 1600000
set_option maxRecDepth 100000

/-! ### how many kids -/
theorem tk_1 (W : World) : Calls Tryz.prog 31 #[.int .u8 1] W fun e W' => e = .returned (.int .i64 0) ∧ W = W' := by
  go_enter Tryz.func31, Tryz.ntmps31
  go_wp2_with fail
  repeat' (first | ((with_reducible refine wp_exit ?_); (repeat (first | (with_reducible refine ex_then ?_) | (with_reducible refine ex_near ?_) | (refine ex_far (by decide) ?_))); (with_reducible refine ex_go ?_)) | go_values | go_skip | go_guarded | go_step | go_upon)
  go_ret
  exact ⟨rfl, rfl⟩
theorem tk_2 (W : World) : Calls Tryz.prog 31 #[.int .u8 2] W fun e W' => e = .returned (.int .i64 0) ∧ W = W' := by
  go_enter Tryz.func31, Tryz.ntmps31
  go_wp2_with fail
  repeat' (first | ((with_reducible refine wp_exit ?_); (repeat (first | (with_reducible refine ex_then ?_) | (with_reducible refine ex_near ?_) | (refine ex_far (by decide) ?_))); (with_reducible refine ex_go ?_)) | go_values | go_skip | go_guarded | go_step | go_upon)
  go_ret
  exact ⟨rfl, rfl⟩
theorem tk_3 (W : World) : Calls Tryz.prog 31 #[.int .u8 3] W fun e W' => e = .returned (.int .i64 1) ∧ W = W' := by
  go_enter Tryz.func31, Tryz.ntmps31
  go_wp2_with fail
  repeat' (first | ((with_reducible refine wp_exit ?_); (repeat (first | (with_reducible refine ex_then ?_) | (with_reducible refine ex_near ?_) | (refine ex_far (by decide) ?_))); (with_reducible refine ex_go ?_)) | go_values | go_skip | go_guarded | go_step | go_upon)
  go_ret
  exact ⟨rfl, rfl⟩
theorem tk_4 (W : World) : Calls Tryz.prog 31 #[.int .u8 4] W fun e W' => e = .returned (.int .i64 1) ∧ W = W' := by
  go_enter Tryz.func31, Tryz.ntmps31
  go_wp2_with fail
  repeat' (first | ((with_reducible refine wp_exit ?_); (repeat (first | (with_reducible refine ex_then ?_) | (with_reducible refine ex_near ?_) | (refine ex_far (by decide) ?_))); (with_reducible refine ex_go ?_)) | go_values | go_skip | go_guarded | go_step | go_upon)
  go_ret
  exact ⟨rfl, rfl⟩
theorem tk_5 (W : World) : Calls Tryz.prog 31 #[.int .u8 5] W fun e W' => e = .returned (.int .i64 2) ∧ W = W' := by
  go_enter Tryz.func31, Tryz.ntmps31
  go_wp2_with fail
  repeat' (first | ((with_reducible refine wp_exit ?_); (repeat (first | (with_reducible refine ex_then ?_) | (with_reducible refine ex_near ?_) | (refine ex_far (by decide) ?_))); (with_reducible refine ex_go ?_)) | go_values | go_skip | go_guarded | go_step | go_upon)
  go_ret
  exact ⟨rfl, rfl⟩
theorem tk_6 (W : World) : Calls Tryz.prog 31 #[.int .u8 6] W fun e W' => e = .returned (.int .i64 2) ∧ W = W' := by
  go_enter Tryz.func31, Tryz.ntmps31
  go_wp2_with fail
  repeat' (first | ((with_reducible refine wp_exit ?_); (repeat (first | (with_reducible refine ex_then ?_) | (with_reducible refine ex_near ?_) | (refine ex_far (by decide) ?_))); (with_reducible refine ex_go ?_)) | go_values | go_skip | go_guarded | go_step | go_upon)
  go_ret
  exact ⟨rfl, rfl⟩
theorem tk_7 (W : World) : Calls Tryz.prog 31 #[.int .u8 7] W fun e W' => e = .returned (.int .i64 2) ∧ W = W' := by
  go_enter Tryz.func31, Tryz.ntmps31
  go_wp2_with fail
  repeat' (first | ((with_reducible refine wp_exit ?_); (repeat (first | (with_reducible refine ex_then ?_) | (with_reducible refine ex_near ?_) | (refine ex_far (by decide) ?_))); (with_reducible refine ex_go ?_)) | go_values | go_skip | go_guarded | go_step | go_upon)
  go_ret
  exact ⟨rfl, rfl⟩
theorem tk_8 (W : World) : Calls Tryz.prog 31 #[.int .u8 8] W fun e W' => e = .returned (.int .i64 2) ∧ W = W' := by
  go_enter Tryz.func31, Tryz.ntmps31
  go_wp2_with fail
  repeat' (first | ((with_reducible refine wp_exit ?_); (repeat (first | (with_reducible refine ex_then ?_) | (with_reducible refine ex_near ?_) | (refine ex_far (by decide) ?_))); (with_reducible refine ex_go ?_)) | go_values | go_skip | go_guarded | go_step | go_upon)
  go_ret
  exact ⟨rfl, rfl⟩
theorem tk_9 (W : World) : Calls Tryz.prog 31 #[.int .u8 9] W fun e W' => e = .returned (.int .i64 2) ∧ W = W' := by
  go_enter Tryz.func31, Tryz.ntmps31
  go_wp2_with fail
  repeat' (first | ((with_reducible refine wp_exit ?_); (repeat (first | (with_reducible refine ex_then ?_) | (with_reducible refine ex_near ?_) | (refine ex_far (by decide) ?_))); (with_reducible refine ex_go ?_)) | go_values | go_skip | go_guarded | go_step | go_upon)
  go_ret
  exact ⟨rfl, rfl⟩
theorem tk_10 (W : World) : Calls Tryz.prog 31 #[.int .u8 10] W fun e W' => e = .returned (.int .i64 2) ∧ W = W' := by
  go_enter Tryz.func31, Tryz.ntmps31
  go_wp2_with fail
  repeat' (first | ((with_reducible refine wp_exit ?_); (repeat (first | (with_reducible refine ex_then ?_) | (with_reducible refine ex_near ?_) | (refine ex_far (by decide) ?_))); (with_reducible refine ex_go ?_)) | go_values | go_skip | go_guarded | go_step | go_upon)
  go_ret
  exact ⟨rfl, rfl⟩
theorem tk_11 (W : World) : Calls Tryz.prog 31 #[.int .u8 11] W fun e W' => e = .returned (.int .i64 2) ∧ W = W' := by
  go_enter Tryz.func31, Tryz.ntmps31
  go_wp2_with fail
  repeat' (first | ((with_reducible refine wp_exit ?_); (repeat (first | (with_reducible refine ex_then ?_) | (with_reducible refine ex_near ?_) | (refine ex_far (by decide) ?_))); (with_reducible refine ex_go ?_)) | go_values | go_skip | go_guarded | go_step | go_upon)
  go_ret
  exact ⟨rfl, rfl⟩
theorem tk_12 (W : World) : Calls Tryz.prog 31 #[.int .u8 12] W fun e W' => e = .returned (.int .i64 2) ∧ W = W' := by
  go_enter Tryz.func31, Tryz.ntmps31
  go_wp2_with fail
  repeat' (first | ((with_reducible refine wp_exit ?_); (repeat (first | (with_reducible refine ex_then ?_) | (with_reducible refine ex_near ?_) | (refine ex_far (by decide) ?_))); (with_reducible refine ex_go ?_)) | go_values | go_skip | go_guarded | go_step | go_upon)
  go_ret
  exact ⟨rfl, rfl⟩
theorem tk_13 (W : World) : Calls Tryz.prog 31 #[.int .u8 13] W fun e W' => e = .returned (.int .i64 2) ∧ W = W' := by
  go_enter Tryz.func31, Tryz.ntmps31
  go_wp2_with fail
  repeat' (first | ((with_reducible refine wp_exit ?_); (repeat (first | (with_reducible refine ex_then ?_) | (with_reducible refine ex_near ?_) | (refine ex_far (by decide) ?_))); (with_reducible refine ex_go ?_)) | go_values | go_skip | go_guarded | go_step | go_upon)
  go_ret
  exact ⟨rfl, rfl⟩
theorem tk_14 (W : World) : Calls Tryz.prog 31 #[.int .u8 14] W fun e W' => e = .returned (.int .i64 2) ∧ W = W' := by
  go_enter Tryz.func31, Tryz.ntmps31
  go_wp2_with fail
  repeat' (first | ((with_reducible refine wp_exit ?_); (repeat (first | (with_reducible refine ex_then ?_) | (with_reducible refine ex_near ?_) | (refine ex_far (by decide) ?_))); (with_reducible refine ex_go ?_)) | go_values | go_skip | go_guarded | go_step | go_upon)
  go_ret
  exact ⟨rfl, rfl⟩
theorem tk_15 (W : World) : Calls Tryz.prog 31 #[.int .u8 15] W fun e W' => e = .returned (.int .i64 2) ∧ W = W' := by
  go_enter Tryz.func31, Tryz.ntmps31
  go_wp2_with fail
  repeat' (first | ((with_reducible refine wp_exit ?_); (repeat (first | (with_reducible refine ex_then ?_) | (with_reducible refine ex_near ?_) | (refine ex_far (by decide) ?_))); (with_reducible refine ex_go ?_)) | go_values | go_skip | go_guarded | go_step | go_upon)
  go_ret
  exact ⟨rfl, rfl⟩
theorem tk_16 (W : World) : Calls Tryz.prog 31 #[.int .u8 16] W fun e W' => e = .returned (.int .i64 2) ∧ W = W' := by
  go_enter Tryz.func31, Tryz.ntmps31
  go_wp2_with fail
  repeat' (first | ((with_reducible refine wp_exit ?_); (repeat (first | (with_reducible refine ex_then ?_) | (with_reducible refine ex_near ?_) | (refine ex_far (by decide) ?_))); (with_reducible refine ex_go ?_)) | go_values | go_skip | go_guarded | go_step | go_upon)
  go_ret
  exact ⟨rfl, rfl⟩
theorem tk_17 (W : World) : Calls Tryz.prog 31 #[.int .u8 17] W fun e W' => e = .returned (.int .i64 2) ∧ W = W' := by
  go_enter Tryz.func31, Tryz.ntmps31
  go_wp2_with fail
  repeat' (first | ((with_reducible refine wp_exit ?_); (repeat (first | (with_reducible refine ex_then ?_) | (with_reducible refine ex_near ?_) | (refine ex_far (by decide) ?_))); (with_reducible refine ex_go ?_)) | go_values | go_skip | go_guarded | go_step | go_upon)
  go_ret
  exact ⟨rfl, rfl⟩
theorem tk_18 (W : World) : Calls Tryz.prog 31 #[.int .u8 18] W fun e W' => e = .returned (.int .i64 2) ∧ W = W' := by
  go_enter Tryz.func31, Tryz.ntmps31
  go_wp2_with fail
  repeat' (first | ((with_reducible refine wp_exit ?_); (repeat (first | (with_reducible refine ex_then ?_) | (with_reducible refine ex_near ?_) | (refine ex_far (by decide) ?_))); (with_reducible refine ex_go ?_)) | go_values | go_skip | go_guarded | go_step | go_upon)
  go_ret
  exact ⟨rfl, rfl⟩
theorem tk_19 (W : World) : Calls Tryz.prog 31 #[.int .u8 19] W fun e W' => e = .returned (.int .i64 2) ∧ W = W' := by
  go_enter Tryz.func31, Tryz.ntmps31
  go_wp2_with fail
  repeat' (first | ((with_reducible refine wp_exit ?_); (repeat (first | (with_reducible refine ex_then ?_) | (with_reducible refine ex_near ?_) | (refine ex_far (by decide) ?_))); (with_reducible refine ex_go ?_)) | go_values | go_skip | go_guarded | go_step | go_upon)
  go_ret
  exact ⟨rfl, rfl⟩
theorem tk_20 (W : World) : Calls Tryz.prog 31 #[.int .u8 20] W fun e W' => e = .returned (.int .i64 2) ∧ W = W' := by
  go_enter Tryz.func31, Tryz.ntmps31
  go_wp2_with fail
  repeat' (first | ((with_reducible refine wp_exit ?_); (repeat (first | (with_reducible refine ex_then ?_) | (with_reducible refine ex_near ?_) | (refine ex_far (by decide) ?_))); (with_reducible refine ex_go ?_)) | go_values | go_skip | go_guarded | go_step | go_upon)
  go_ret
  exact ⟨rfl, rfl⟩
theorem tk_21 (W : World) : Calls Tryz.prog 31 #[.int .u8 21] W fun e W' => e = .returned (.int .i64 2) ∧ W = W' := by
  go_enter Tryz.func31, Tryz.ntmps31
  go_wp2_with fail
  repeat' (first | ((with_reducible refine wp_exit ?_); (repeat (first | (with_reducible refine ex_then ?_) | (with_reducible refine ex_near ?_) | (refine ex_far (by decide) ?_))); (with_reducible refine ex_go ?_)) | go_values | go_skip | go_guarded | go_step | go_upon)
  go_ret
  exact ⟨rfl, rfl⟩
theorem tk_22 (W : World) : Calls Tryz.prog 31 #[.int .u8 22] W fun e W' => e = .returned (.int .i64 1) ∧ W = W' := by
  go_enter Tryz.func31, Tryz.ntmps31
  go_wp2_with fail
  repeat' (first | ((with_reducible refine wp_exit ?_); (repeat (first | (with_reducible refine ex_then ?_) | (with_reducible refine ex_near ?_) | (refine ex_far (by decide) ?_))); (with_reducible refine ex_go ?_)) | go_values | go_skip | go_guarded | go_step | go_upon)
  go_ret
  exact ⟨rfl, rfl⟩
theorem tk_23 (W : World) : Calls Tryz.prog 31 #[.int .u8 23] W fun e W' => e = .returned (.int .i64 1) ∧ W = W' := by
  go_enter Tryz.func31, Tryz.ntmps31
  go_wp2_with fail
  repeat' (first | ((with_reducible refine wp_exit ?_); (repeat (first | (with_reducible refine ex_then ?_) | (with_reducible refine ex_near ?_) | (refine ex_far (by decide) ?_))); (with_reducible refine ex_go ?_)) | go_values | go_skip | go_guarded | go_step | go_upon)
  go_ret
  exact ⟨rfl, rfl⟩
theorem tk_24 (W : World) : Calls Tryz.prog 31 #[.int .u8 24] W fun e W' => e = .returned (.int .i64 1) ∧ W = W' := by
  go_enter Tryz.func31, Tryz.ntmps31
  go_wp2_with fail
  repeat' (first | ((with_reducible refine wp_exit ?_); (repeat (first | (with_reducible refine ex_then ?_) | (with_reducible refine ex_near ?_) | (refine ex_far (by decide) ?_))); (with_reducible refine ex_go ?_)) | go_values | go_skip | go_guarded | go_step | go_upon)
  go_ret
  exact ⟨rfl, rfl⟩
theorem tk_25 (W : World) : Calls Tryz.prog 31 #[.int .u8 25] W fun e W' => e = .returned (.int .i64 3) ∧ W = W' := by
  go_enter Tryz.func31, Tryz.ntmps31
  go_wp2_with fail
  repeat' (first | ((with_reducible refine wp_exit ?_); (repeat (first | (with_reducible refine ex_then ?_) | (with_reducible refine ex_near ?_) | (refine ex_far (by decide) ?_))); (with_reducible refine ex_go ?_)) | go_values | go_skip | go_guarded | go_step | go_upon)
  go_ret
  exact ⟨rfl, rfl⟩
theorem tk_any {o : Nat} (h : 1 ≤ o ∧ o ≤ 25) (W : World) : Calls Tryz.prog 31 #[.int .u8 ((o : Nat) : Int)] W fun e W' => e = .returned (.int .i64 ((kc o : Nat) : Int)) ∧ W = W' := by
  have hh : o = 1 ∨ o = 2 ∨ o = 3 ∨ o = 4 ∨ o = 5 ∨ o = 6 ∨ o = 7 ∨ o = 8 ∨ o = 9 ∨ o = 10 ∨ o = 11 ∨ o = 12 ∨ o = 13 ∨ o = 14 ∨ o = 15 ∨ o = 16 ∨ o = 17 ∨ o = 18 ∨ o = 19 ∨ o = 20 ∨ o = 21 ∨ o = 22 ∨ o = 23 ∨ o = 24 ∨ o = 25 := by omega
  rcases hh with rfl | rfl | rfl | rfl | rfl | rfl | rfl | rfl | rfl | rfl | rfl | rfl | rfl | rfl | rfl | rfl | rfl | rfl | rfl | rfl | rfl | rfl | rfl | rfl | rfl
  · exact tk_1 W
  · exact tk_2 W
  · exact tk_3 W
  · exact tk_4 W
  · exact tk_5 W
  · exact tk_6 W
  · exact tk_7 W
  · exact tk_8 W
  · exact tk_9 W
  · exact tk_10 W
  · exact tk_11 W
  · exact tk_12 W
  · exact tk_13 W
  · exact tk_14 W
  · exact tk_15 W
  · exact tk_16 W
  · exact tk_17 W
  · exact tk_18 W
  · exact tk_19 W
  · exact tk_20 W
  · exact tk_21 W
  · exact tk_22 W
  · exact tk_23 W
  · exact tk_24 W
  · exact tk_25 W

/-! ### what is read of package-level variables -/
structure EnvAt (F : Nat → Prop) (w : World) : Prop where
  nm : ∀ (o : Nat) (s : By), nameL[o]? = some s → w.cell? ⟨0, o, none⟩ = some (.string ⟨s.toArray⟩)
  pw : Lib.TabIs Tryz.prog w "internal/strconv.uint64pow10" .u64 Lib.pow10Tab
  es : ∃ t p, w.cell? ⟨4, 0, none⟩ = some (.iface t p)
  er : ∃ t p, w.cell? ⟨5, 0, none⟩ = some (.iface t p)
  lp : 1 < w.heap.size
  fnm : ¬ F 0
  fpw : ¬ F 1
  fes : ¬ F 4
  fer : ¬ F 5

theorem gpow : Tryz.prog.globalNamed "internal/strconv.uint64pow10" = some 1 := by kernel_rfl
theorem EnvAt.kept {F : Nat → Prop} {w w' : World} (h : EnvAt F w) (k : Kept F w w') : EnvAt F w' := by
  refine ⟨fun o s e => ?_, ?_, ?_, ?_, Nat.lt_of_lt_of_le h.lp k.size, h.fnm, h.fpw, h.fes, h.fer⟩
  · have := h.nm o s e
    exact (k.cell (x := ⟨0, o, none⟩) (World.block_lt_of_cell? w _ this) h.fnm).trans this
  · have hp := h.pw
    unfold Lib.TabIs World.var? at *
    rw [gpow, Option.bind_some] at *
    rw [k.block _ h.lp h.fpw]
    exact hp
  · obtain ⟨t, p, e⟩ := h.es
    exact ⟨t, p, (k.cell (x := ⟨4, 0, none⟩) (World.block_lt_of_cell? w _ e) h.fes).trans e⟩
  · obtain ⟨t, p, e⟩ := h.er
    exact ⟨t, p, (k.cell (x := ⟨5, 0, none⟩) (World.block_lt_of_cell? w _ e) h.fer).trans e⟩
theorem EnvAt.call {F : Nat → Prop} {w w' : World} (h : EnvAt F w) (k : Below w.heap.size w w') : EnvAt F w' := h.kept (Kept.ofBelow k F)
theorem EnvAt.alloc {F : Nat → Prop} {w : World} (h : EnvAt F w) (o : Obj) : EnvAt F (w.alloc o) := h.kept ((Kept.refl F w).alloc o)
theorem EnvAt.mono {F G : Nat → Prop} {w : World} (h : EnvAt F w) (hG : ∀ i, G i → F i) : EnvAt G w :=
  ⟨h.nm, h.pw, h.es, h.er, h.lp, fun c => h.fnm (hG _ c), fun c => h.fpw (hG _ c), fun c => h.fes (hG _ c), fun c => h.fer (hG _ c)⟩

/-! ### names -/
theorem name_in {F : Nat → Prop} {w : World} (E : EnvAt F w) {o : Nat} (ho : o < 26) :
    Calls Tryz.prog 8 #[.int .u8 ((o : Nat) : Int)] w fun e w' => e = .returned (.string ⟨(nm o).toArray⟩) ∧ w = w' := by
  have hs : nameL[o]? = some (nm o) := by
    unfold nm
    rw [List.getD_eq_getElem?_getD, List.getElem?_eq_getElem (show o < nameL.length from ho)]
    rfl
  have hc := E.nm o _ hs
  have cw : IntKind.i64.wrap ((o : Nat) : Int) = ((o : Nat) : Int) := by rw [IntKind.wrap_i64]; omega
  have q : ¬ (26 : Int) ≤ ((o : Nat) : Int) := by omega
  have q1 : ((o : Nat) : Int) < 26 := by omega
  have q0 : (0 : Int) ≤ ((o : Nat) : Int) := by omega
  clear E ho hs
  generalize nm o = s at hc ⊢
  go_enter Tryz.func8, Tryz.ntmps8
  go_wp2_with fail
  go_ret
  exact ⟨rfl, rfl⟩
theorem name_out {w : World} {o : Nat} (ho : 26 ≤ o) (h8 : o ≤ 255) :
    Calls Tryz.prog 8 #[.int .u8 ((o : Nat) : Int)] w fun e w' => e = .returned (.string ⟨(nm o).toArray⟩) ∧ w = w' := by
  have hs : nm o = [] := by
    unfold nm
    rw [List.getD_eq_getElem?_getD, List.getElem?_eq_none (show nameL.length ≤ o from ho)]
    rfl
  rw [hs]
  have cw : IntKind.i64.wrap ((o : Nat) : Int) = ((o : Nat) : Int) := by rw [IntKind.wrap_i64]; omega
  have q : (26 : Int) ≤ ((o : Nat) : Int) := by omega
  go_enter Tryz.func8, Tryz.ntmps8
  go_wp2_with fail
  go_ret
  exact ⟨rfl, rfl⟩
theorem name_any {F : Nat → Prop} {w : World} (E : EnvAt F w) {o : Nat} (h8 : o ≤ 255) :
    Calls Tryz.prog 8 #[.int .u8 ((o : Nat) : Int)] w fun e w' => e = .returned (.string ⟨(nm o).toArray⟩) ∧ w = w' := by
  by_cases h : o < 26
  · exact name_in E h
  · exact name_out (by omega) h8
end Tx
end Go.Proofs.YtjinjddcnjcffaaGreatDoor

namespace Go.Proofs.YtjinjddcnjcffaaGreatDoor
open Go.RowKit Go.Maps Bv Tm
namespace Tx
set_option maxHeartbeats 1600000
set_option maxRecDepth 100000

theorem nm_far {o : Nat} (h : 26 ≤ o) : nm o = [] := by
  unfold nm
  rw [List.getD_eq_getElem?_getD, List.getElem?_eq_none (show nameL.length ≤ o by simpa [nameL] using h)]
  rfl

theorem names_new (w : World) (T : TypeId) (o : Nat) (h : o < 26) : (w.alloc (.cells (nameL.map fun s => Value.string ⟨s.toArray⟩).toArray T)).cell? ⟨w.heap.size, o, none⟩ = some (.string ⟨(nm o).toArray⟩) := by
  rw [World.cell?_alloc_new]
  have hl : o < nameL.length := h
  simp [nm, List.getD_eq_getElem?_getD, List.getElem?_eq_getElem hl]

theorem rname_any {o : Nat} (h : o < 256) (W : World) :
    Calls Tryz.prog 9 #[.int .u8 ((o : Nat) : Int)] W fun e w' => e = .returned (.string ⟨(nm o).toArray⟩) ∧ Below W.heap.size W w' := by
  have cw : IntKind.i64.wrap ((o : Nat) : Int) = ((o : Nat) : Int) := by rw [IntKind.wrap_i64]; omega
  by_cases ho : o < 26
  · have hc := fun T => names_new W T o ho
    simp only [nameL, List.map_cons, List.map_nil] at hc
    have q : ¬ (26 : Int) ≤ ((o : Nat) : Int) := by omega
    have q2 : ((o : Nat) : Int) < 26 := by omega
    go_enter Tryz.func9, Tryz.ntmps9
    go_wp2_with fail
    go_ret
    exact ⟨rfl, bel_alloc (Below.refl _ _) _⟩
  · have q : (26 : Int) ≤ ((o : Nat) : Int) := by omega
    rw [nm_far (by omega)]
    go_enter Tryz.func9, Tryz.ntmps9
    go_wp2_with fail
    go_ret
    exact ⟨rfl, bel_alloc (Below.refl _ _) _⟩
end Tx
end Go.Proofs.YtjinjddcnjcffaaGreatDoor

namespace Go.Proofs.YtjinjddcnjcffaaGreatDoor
open Go.RowKit Bv
namespace Tm
set_option maxHeartbeats 400000
set_option maxRecDepth 100000

theorem rkids_1 (W : World) : Calls Tryz.prog 27 #[.int .u8 1] W fun e W' => e = .returned (.int .i64 0) ∧ W = W' := by
  go_enter Tryz.func27, Tryz.ntmps27
  go_wp2_with fail
  go_ret
  exact ⟨rfl, rfl⟩

theorem rkids_2 (W : World) : Calls Tryz.prog 27 #[.int .u8 2] W fun e W' => e = .returned (.int .i64 0) ∧ W = W' := by
  go_enter Tryz.func27, Tryz.ntmps27
  go_wp2_with fail
  go_ret
  exact ⟨rfl, rfl⟩

theorem rkids_3 (W : World) : Calls Tryz.prog 27 #[.int .u8 3] W fun e W' => e = .returned (.int .i64 1) ∧ W = W' := by
  go_enter Tryz.func27, Tryz.ntmps27
  go_wp2_with fail
  go_ret
  exact ⟨rfl, rfl⟩

theorem rkids_4 (W : World) : Calls Tryz.prog 27 #[.int .u8 4] W fun e W' => e = .returned (.int .i64 1) ∧ W = W' := by
  go_enter Tryz.func27, Tryz.ntmps27
  go_wp2_with fail
  go_ret
  exact ⟨rfl, rfl⟩

theorem rkids_5 (W : World) : Calls Tryz.prog 27 #[.int .u8 5] W fun e W' => e = .returned (.int .i64 2) ∧ W = W' := by
  go_enter Tryz.func27, Tryz.ntmps27
  go_wp2_with fail
  go_ret
  exact ⟨rfl, rfl⟩

theorem rkids_6 (W : World) : Calls Tryz.prog 27 #[.int .u8 6] W fun e W' => e = .returned (.int .i64 2) ∧ W = W' := by
  go_enter Tryz.func27, Tryz.ntmps27
  go_wp2_with fail
  go_ret
  exact ⟨rfl, rfl⟩

theorem rkids_7 (W : World) : Calls Tryz.prog 27 #[.int .u8 7] W fun e W' => e = .returned (.int .i64 2) ∧ W = W' := by
  go_enter Tryz.func27, Tryz.ntmps27
  go_wp2_with fail
  go_ret
  exact ⟨rfl, rfl⟩

theorem rkids_8 (W : World) : Calls Tryz.prog 27 #[.int .u8 8] W fun e W' => e = .returned (.int .i64 2) ∧ W = W' := by
  go_enter Tryz.func27, Tryz.ntmps27
  go_wp2_with fail
  go_ret
  exact ⟨rfl, rfl⟩

theorem rkids_9 (W : World) : Calls Tryz.prog 27 #[.int .u8 9] W fun e W' => e = .returned (.int .i64 2) ∧ W = W' := by
  go_enter Tryz.func27, Tryz.ntmps27
  go_wp2_with fail
  go_ret
  exact ⟨rfl, rfl⟩

theorem rkids_10 (W : World) : Calls Tryz.prog 27 #[.int .u8 10] W fun e W' => e = .returned (.int .i64 2) ∧ W = W' := by
  go_enter Tryz.func27, Tryz.ntmps27
  go_wp2_with fail
  go_ret
  exact ⟨rfl, rfl⟩

theorem rkids_11 (W : World) : Calls Tryz.prog 27 #[.int .u8 11] W fun e W' => e = .returned (.int .i64 2) ∧ W = W' := by
  go_enter Tryz.func27, Tryz.ntmps27
  go_wp2_with fail
  go_ret
  exact ⟨rfl, rfl⟩

theorem rkids_12 (W : World) : Calls Tryz.prog 27 #[.int .u8 12] W fun e W' => e = .returned (.int .i64 2) ∧ W = W' := by
  go_enter Tryz.func27, Tryz.ntmps27
  go_wp2_with fail
  go_ret
  exact ⟨rfl, rfl⟩

theorem rkids_13 (W : World) : Calls Tryz.prog 27 #[.int .u8 13] W fun e W' => e = .returned (.int .i64 2) ∧ W = W' := by
  go_enter Tryz.func27, Tryz.ntmps27
  go_wp2_with fail
  go_ret
  exact ⟨rfl, rfl⟩

theorem rkids_14 (W : World) : Calls Tryz.prog 27 #[.int .u8 14] W fun e W' => e = .returned (.int .i64 2) ∧ W = W' := by
  go_enter Tryz.func27, Tryz.ntmps27
  go_wp2_with fail
  go_ret
  exact ⟨rfl, rfl⟩

theorem rkids_15 (W : World) : Calls Tryz.prog 27 #[.int .u8 15] W fun e W' => e = .returned (.int .i64 2) ∧ W = W' := by
  go_enter Tryz.func27, Tryz.ntmps27
  go_wp2_with fail
  go_ret
  exact ⟨rfl, rfl⟩

theorem rkids_16 (W : World) : Calls Tryz.prog 27 #[.int .u8 16] W fun e W' => e = .returned (.int .i64 2) ∧ W = W' := by
  go_enter Tryz.func27, Tryz.ntmps27
  go_wp2_with fail
  go_ret
  exact ⟨rfl, rfl⟩

theorem rkids_17 (W : World) : Calls Tryz.prog 27 #[.int .u8 17] W fun e W' => e = .returned (.int .i64 2) ∧ W = W' := by
  go_enter Tryz.func27, Tryz.ntmps27
  go_wp2_with fail
  go_ret
  exact ⟨rfl, rfl⟩

theorem rkids_18 (W : World) : Calls Tryz.prog 27 #[.int .u8 18] W fun e W' => e = .returned (.int .i64 2) ∧ W = W' := by
  go_enter Tryz.func27, Tryz.ntmps27
  go_wp2_with fail
  go_ret
  exact ⟨rfl, rfl⟩

theorem rkids_19 (W : World) : Calls Tryz.prog 27 #[.int .u8 19] W fun e W' => e = .returned (.int .i64 2) ∧ W = W' := by
  go_enter Tryz.func27, Tryz.ntmps27
  go_wp2_with fail
  go_ret
  exact ⟨rfl, rfl⟩

theorem rkids_20 (W : World) : Calls Tryz.prog 27 #[.int .u8 20] W fun e W' => e = .returned (.int .i64 2) ∧ W = W' := by
  go_enter Tryz.func27, Tryz.ntmps27
  go_wp2_with fail
  go_ret
  exact ⟨rfl, rfl⟩

theorem rkids_21 (W : World) : Calls Tryz.prog 27 #[.int .u8 21] W fun e W' => e = .returned (.int .i64 2) ∧ W = W' := by
  go_enter Tryz.func27, Tryz.ntmps27
  go_wp2_with fail
  go_ret
  exact ⟨rfl, rfl⟩

theorem rkids_22 (W : World) : Calls Tryz.prog 27 #[.int .u8 22] W fun e W' => e = .returned (.int .i64 1) ∧ W = W' := by
  go_enter Tryz.func27, Tryz.ntmps27
  go_wp2_with fail
  go_ret
  exact ⟨rfl, rfl⟩

theorem rkids_23 (W : World) : Calls Tryz.prog 27 #[.int .u8 23] W fun e W' => e = .returned (.int .i64 1) ∧ W = W' := by
  go_enter Tryz.func27, Tryz.ntmps27
  go_wp2_with fail
  go_ret
  exact ⟨rfl, rfl⟩

theorem rkids_24 (W : World) : Calls Tryz.prog 27 #[.int .u8 24] W fun e W' => e = .returned (.int .i64 1) ∧ W = W' := by
  go_enter Tryz.func27, Tryz.ntmps27
  go_wp2_with fail
  go_ret
  exact ⟨rfl, rfl⟩

theorem rkids_25 (W : World) : Calls Tryz.prog 27 #[.int .u8 25] W fun e W' => e = .returned (.int .i64 3) ∧ W = W' := by
  go_enter Tryz.func27, Tryz.ntmps27
  go_wp2_with fail
  go_ret
  exact ⟨rfl, rfl⟩

theorem rkids_no0 (o : Nat) (h : o = 0) (W : World) : Calls Tryz.prog 27 #[.int .u8 o] W fun e W' => e = .returned (.int .i64 (-1)) ∧ W = W' := by
  have d1 : ((o : Int) == 1) = false := by simp; omega
  have d2 : ((o : Int) == 2) = false := by simp; omega
  have d3 : ((o : Int) == 3) = false := by simp; omega
  have d4 : ((o : Int) == 4) = false := by simp; omega
  have d22 : ((o : Int) == 22) = false := by simp; omega
  have d23 : ((o : Int) == 23) = false := by simp; omega
  have d24 : ((o : Int) == 24) = false := by simp; omega
  have d25 : ((o : Int) == 25) = false := by simp; omega
  have g5 : decide ((5 : Int) ≤ (o : Int)) = false := decide_eq_false (by omega)
  go_enter Tryz.func27, Tryz.ntmps27
  go_wp2_with fail
  go_ret
  exact ⟨rfl, rfl⟩

theorem rkids_no26 (o : Nat) (h : 25 < o) (W : World) : Calls Tryz.prog 27 #[.int .u8 o] W fun e W' => e = .returned (.int .i64 (-1)) ∧ W = W' := by
  have d1 : ((o : Int) == 1) = false := by simp; omega
  have d2 : ((o : Int) == 2) = false := by simp; omega
  have d3 : ((o : Int) == 3) = false := by simp; omega
  have d4 : ((o : Int) == 4) = false := by simp; omega
  have d22 : ((o : Int) == 22) = false := by simp; omega
  have d23 : ((o : Int) == 23) = false := by simp; omega
  have d24 : ((o : Int) == 24) = false := by simp; omega
  have d25 : ((o : Int) == 25) = false := by simp; omega
  have g5 : decide ((5 : Int) ≤ (o : Int)) = true := decide_eq_true (by omega)
  have g21 : decide ((o : Int) ≤ 21) = false := decide_eq_false (by omega)
  go_enter Tryz.func27, Tryz.ntmps27
  go_wp2_with fail
  go_ret
  exact ⟨rfl, rfl⟩

theorem rkids_any (o : Nat) (W : World) : Calls Tryz.prog 27 #[.int .u8 o] W fun e W' => e = .returned (.int .i64 (rk o)) ∧ W = W' := by
  by_cases h0 : o = 0
  · rw [show rk o = -1 by subst h0; rfl]; exact rkids_no0 o h0 W
  by_cases h26 : 25 < o
  · rw [show rk o = -1 by unfold rk; rw [if_neg (by omega), if_neg (by omega), if_neg (by omega), if_neg (by omega)]]; exact rkids_no26 o h26 W
  by_cases h101 : o = 1
  · subst h101; exact rkids_1 W
  by_cases h102 : o = 2
  · subst h102; exact rkids_2 W
  by_cases h103 : o = 3
  · subst h103; exact rkids_3 W
  by_cases h104 : o = 4
  · subst h104; exact rkids_4 W
  by_cases h105 : o = 5
  · subst h105; exact rkids_5 W
  by_cases h106 : o = 6
  · subst h106; exact rkids_6 W
  by_cases h107 : o = 7
  · subst h107; exact rkids_7 W
  by_cases h108 : o = 8
  · subst h108; exact rkids_8 W
  by_cases h109 : o = 9
  · subst h109; exact rkids_9 W
  by_cases h110 : o = 10
  · subst h110; exact rkids_10 W
  by_cases h111 : o = 11
  · subst h111; exact rkids_11 W
  by_cases h112 : o = 12
  · subst h112; exact rkids_12 W
  by_cases h113 : o = 13
  · subst h113; exact rkids_13 W
  by_cases h114 : o = 14
  · subst h114; exact rkids_14 W
  by_cases h115 : o = 15
  · subst h115; exact rkids_15 W
  by_cases h116 : o = 16
  · subst h116; exact rkids_16 W
  by_cases h117 : o = 17
  · subst h117; exact rkids_17 W
  by_cases h118 : o = 18
  · subst h118; exact rkids_18 W
  by_cases h119 : o = 19
  · subst h119; exact rkids_19 W
  by_cases h120 : o = 20
  · subst h120; exact rkids_20 W
  by_cases h121 : o = 21
  · subst h121; exact rkids_21 W
  by_cases h122 : o = 22
  · subst h122; exact rkids_22 W
  by_cases h123 : o = 23
  · subst h123; exact rkids_23 W
  by_cases h124 : o = 24
  · subst h124; exact rkids_24 W
  obtain rfl : o = 25 := by omega
  exact rkids_25 W
end Tm
end Go.Proofs.YtjinjddcnjcffaaGreatDoor
